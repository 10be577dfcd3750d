/- Texts of the proof of the law FnExactRecordOf, side by side: part 27. -/
import Derived.Test.YtehhbbdaeonebaaGreatDoorMExactRecordOf26
set_option maxHeartbeats 8000000
set_option maxRecDepth 100000
namespace Go.Proofs.YtehhbbdaeonebaaGreatDoor
open Go.RowKit Go.Deep
def MkN (m : Nat) (n : Nd) (h : Hd) (bs : List Nat) (w : World) (q : Nat) (e : Ending) (w' : World) : Prop := ∃ (p i : List Nd) (q1 q2 : Nat), e = .returned (.int .i64 (q2 : Int)) ∧ q2 ≤ 200000000 ∧ p.length = n.ptrs.length ∧ i.length = n.items.length ∧ OwN w' m (.mk n.kind n.data p n.size n.count i) h bs ∧ HelS m p q q1 ∧ HelS m i q1 q2 ∧ OnlyIn bs w w'
theorem markNode_any (m : Nat) (n : Nd) (h : Hd) (bs : List Nat) (w : World) (q : Nat) (hn : OwN w m n h bs) (hnd : bs.Nodup) (h1 : 1 ≤ q) (h2 : q + 4 * sizN n ≤ 100000000) :
 Calls Tryz.prog 15 #[.agg #[.int .i64 n.kind, .string n.data, .slice h.A n.ptrs.length h.a, .int .i64 n.size, .int .i64 n.count, .slice h.B n.items.length h.b], .int .i64 (q : Int)] w (MkN m n h bs w q) := by
 obtain ⟨qA, qa, qB, qb⟩ := h
 rw [sizN_eq] at h2
 have hlt := fun b hb => (hn.lt b hb).1
 obtain ⟨hdm, b1, b2, hbs, o1, o2⟩ := hn
 have hnd' := hnd
 rw [hbs] at hnd'
 have hnp := List.nodup_append.1 hnd'
 have hba : Below w.heap.size w (w.alloc (.cells #[.int .i64 n.kind, .string n.data, .slice qA n.ptrs.length qa, .int .i64 n.size, .int .i64 n.count, .slice qB n.items.length qb] nodeT)) := (Below.refl _ _).alloc (Nat.le_refl _) _
 have HP := Lib.hid (heap_alloc_new w (.cells #[.int .i64 n.kind, .string n.data, .slice qA n.ptrs.length qa, .int .i64 n.size, .int .i64 n.count, .slice qB n.items.length qb] nodeT))
 have HC1 := Lib.hid (mkS_any m qA qa n.ptrs b1 _ q (OwS.below o1 hba) hnp.1 h1 (by omega))
 have HO2 := Lib.hid (OwS.below o2 hba)
 have HBA := Lib.hid (OnlyIn.of_below (bs := bs) hba)
 have HDS := Lib.hid hnp.2.2
 have HN2 := Lib.hid hnp.2.1
 have HLT := Lib.hid hlt
 have HBS := Lib.hid hbs
 have HDM := Lib.hid hdm
 have hsz : (w.alloc (.cells #[.int .i64 n.kind, .string n.data, .slice qA n.ptrs.length qa, .int .i64 n.size, .int .i64 n.count, .slice qB n.items.length qb] nodeT)).heap.size = w.heap.size + 1 := by simp
 clear o1 o2 hnd hnd' hnp hba hlt hbs hdm
 unfold MkN
 go_enter Tryz.func15, Tryz.ntmps15
 go_wp2_with fail
 generalize w.alloc (.cells #[.int .i64 n.kind, .string n.data, .slice qA n.ptrs.length qa, .int .i64 n.size, .int .i64 n.count, .slice qB n.items.length qb] nodeT) = W at *
 refine HC1.out.mono ?_
 rintro e w1 ⟨p, q1, rfl, ha, hb, hl, hop, hhp, hoi⟩
 have hp1 := (hoi.block w.heap.size (by omega) (fun hm => by have := HLT.out _ (by rw [HBS.out]; exact List.mem_append_left _ hm); omega)).trans HP.out
 obtain ⟨a0, a1, a2, a3, a4, a5⟩ := cells6 hp1
 have HO21 : Hid (OwS w1 m qB qb n.items b2) := Lib.hid (HO2.out.frame _ _ _ _ _ (fun b hb => hoi.block b (HO2.out.lt _ _ _ _ _ b hb).1 (fun hm => HDS.out b hm b hb rfl)))
 have HC2 := Lib.hid (mkS_any m qB qb n.items b2 w1 q1 HO21.out HN2.out (by omega) (by omega))
 have HB1 := Lib.hid (HBA.out.trans (hoi.mono (fun b hb => .inl (by rw [HBS.out]; exact List.mem_append_left _ hb))))
 have HOP := Lib.hid hop
 have HHP := Lib.hid (And.intro hhp hl)
 clear hop hhp hoi hp1 hl HC1 HO2 HBA
 go_wp2_with fail
 refine HC2.out.mono ?_
 rintro e w2 ⟨i, q2, rfl, ha2, hb2, hl2, hoi2, hhi, hoj⟩
 have HFIN : Hid (∃ (p' i' : List Nd) (q1' q2' : Nat), Ending.returned (.int .i64 (q2 : Int)) = .returned (.int .i64 (q2' : Int)) ∧ q2' ≤ 200000000 ∧ p'.length = n.ptrs.length ∧ i'.length = n.items.length ∧ OwN w2 m (.mk n.kind n.data p' n.size n.count i') ⟨qA, qa, qB, qb⟩ bs ∧ HelS m p' q q1' ∧ HelS m i' q1' q2' ∧ OnlyIn bs w w2) := Lib.hid ⟨p, i, q1, q2, rfl, by omega, HHP.out.2, hl2, ⟨HDM.out, b1, b2, HBS.out, HOP.out.frame _ _ _ _ _ (fun b hb => hoj.block b (HOP.out.lt _ _ _ _ _ b hb).1 (fun hm => HDS.out b hb b hm rfl)), hoi2⟩, HHP.out.1, hhi, HB1.out.trans (hoj.mono (fun b hb => .inl (by rw [HBS.out]; exact List.mem_append_right _ hb)))⟩
 clear hoi2 hhi hoj a0 a1 a2 a3 a4 a5
 go_wp2
 go_ret
 exact HFIN.out
theorem heldNode_any (m : Nat) (n : Nd) (h : Hd) (w : World) (S : Nat → Prop) (q q1 q2 : Nat) (hn : NdAt w S m n h) (hp : HelS m n.ptrs q q1) (hi : HelS m n.items q1 q2) (h1 : 1 ≤ q) (h2 : q2 ≤ 200000000) :
 Calls Tryz.prog 24 #[.agg #[.int .i64 n.kind, .string n.data, .slice h.A n.ptrs.length h.a, .int .i64 n.size, .int .i64 n.count, .slice h.B n.items.length h.b], .int .i64 (q : Int)] w fun e w' => e = .returned (.int .i64 (q2 : Int)) ∧ Below w.heap.size w w' := by
 obtain ⟨qA, qa, qB, qb⟩ := h
 have hl1 := helS_len _ _ _ _ hp
 have hl2 := helS_len _ _ _ _ hi
 have hba : Below w.heap.size w (w.alloc (.cells #[.int .i64 n.kind, .string n.data, .slice qA n.ptrs.length qa, .int .i64 n.size, .int .i64 n.count, .slice qB n.items.length qb] nodeT)) := (Below.refl _ _).alloc (Nat.le_refl _) _
 have HP := Lib.hid (heap_alloc_new w (.cells #[.int .i64 n.kind, .string n.data, .slice qA n.ptrs.length qa, .int .i64 n.size, .int .i64 n.count, .slice qB n.items.length qb] nodeT))
 have HC1 : Hid (∀ W : World, Below w.heap.size w W → Calls Tryz.prog 58 #[.slice qA n.ptrs.length qa, .int .i64 (q : Int)] W fun e w' => e = .returned (.int .i64 (q1 : Int)) ∧ Below W.heap.size W w') := Lib.hid fun W hW => heS_any m qA qa n.ptrs W S q q1 (hn.2.1.below hW) hp h1 (by omega)
 have HC2 : Hid (∀ W : World, Below w.heap.size w W → Calls Tryz.prog 58 #[.slice qB n.items.length qb, .int .i64 (q1 : Int)] W fun e w' => e = .returned (.int .i64 (q2 : Int)) ∧ Below W.heap.size W w') := Lib.hid fun W hW => heS_any m qB qb n.items W S q1 q2 (hn.2.2.below hW) hi (by omega) h2
 have HBA := Lib.hid hba
 have hn1 : ¬ ((q1 : Int) < 0) := by omega
 have hn2 : ¬ ((q2 : Int) < 0) := by omega
 clear hn hp hi hba
 go_enter Tryz.func24, Tryz.ntmps24
 go_wp2_with fail
 refine (HC1.out _ HBA.out).mono ?_
 rintro e w1 ⟨rfl, hb1⟩
 have HB1 := Lib.hid (HBA.out.trans (hb1.mono HBA.out.size))
 obtain ⟨a0, a1, a2, a3, a4, a5⟩ := cells6 ((hb1.block _ (row_lt HP.out)).trans HP.out)
 clear hb1
 go_wp2_with fail
 refine (HC2.out _ HB1.out).mono ?_
 rintro e w2 ⟨rfl, hb2⟩
 have HB2 := Lib.hid (HB1.out.trans (hb2.mono HB1.out.size))
 clear hb2 a0 a1 a2 a3 a4 a5
 go_wp2
 go_ret
 exact ⟨rfl, HB2.out⟩
theorem eqVal_a (m : Nat) (x : Int) (y : Nd) (h1 h2 : Hd) (w : World) (S S' : Nat → Prop) (a : NdAt w S m y h1) (b : NdAt w S' m y h2) (ht : totN m y ≤ 2000000) :
 Calls Tryz.prog 11 #[valV x y h1, valV x y h2] w fun e w' => e = .returned (.bool true) ∧ Below w.heap.size w w' := by
 have q0 := al_first w (.cells #[.int .i64 x, .int .i64 y.kind, .string y.data, .slice h1.A y.ptrs.length h1.a, .int .i64 y.size, .int .i64 y.count, .slice h1.B y.items.length h1.b] valT)
 have q1 := al_next q0 (.cells #[.int .i64 x, .int .i64 y.kind, .string y.data, .slice h2.A y.ptrs.length h2.a, .int .i64 y.size, .int .i64 y.count, .slice h2.B y.items.length h2.b] valT)
 have r0 := heap_alloc_keep (heap_alloc_new w (.cells #[.int .i64 x, .int .i64 y.kind, .string y.data, .slice h1.A y.ptrs.length h1.a, .int .i64 y.size, .int .i64 y.count, .slice h1.B y.items.length h1.b] valT)) (.cells #[.int .i64 x, .int .i64 y.kind, .string y.data, .slice h2.A y.ptrs.length h2.a, .int .i64 y.size, .int .i64 y.count, .slice h2.B y.items.length h2.b] valT)
 have r1 := al_row q0 #[.int .i64 x, .int .i64 y.kind, .string y.data, .slice h2.A y.ptrs.length h2.a, .int .i64 y.size, .int .i64 y.count, .slice h2.B y.items.length h2.b] valT
 have HE := Lib.hid (fun (W : World) (hW : Below w.heap.size w W) => eqN_any m y h1 h2 W S S' (a.below hW) (b.below hW) ht)
 have HB0 := Lib.hid q1.2
 obtain ⟨a0, a1, a2, a3, a4, a5, a6⟩ := cellsV r0
 obtain ⟨b0, b1, b2, b3, b4, b5, b6⟩ := cellsV r1
 clear q1 q0 r0 r1 a b ht
 go_enter Tryz.func11, Tryz.ntmps11
 go_wp2_with fail
 refine (HE.out _ HB0.out).mono ?_
 rintro e w1 ⟨rfl, hb1⟩
 have HB1 := Lib.hid (HB0.out.trans (hb1.mono HB0.out.size))
 clear hb1 a0 a1 a2 a3 a4 a5 a6 b0 b1 b2 b3 b4 b5 b6
 go_wp2
 go_ret
 exact ⟨rfl, HB1.out⟩
def totV (m : Nat) (vs : List Vl) : Nat := totL (m + 1) (vs.map (·.nd))
abbrev lvT : TypeId := 84
theorem szVal_a (m : Nat) (x : Int) (n : Nd) (h : Hd) (w : World) (left : Int) (S : Nat → Prop) (hn : NdAt w S m n h) (h0 : 0 ≤ left) (h1 : left ≤ 2000000) :
 Calls Tryz.prog 45 #[valV x n h, .int .i64 left] w fun e w' => e = .returned (.int .i64 (szR left (totN m n))) ∧ Below w.heap.size w w' := by
 have q0 := al_first w (.cells #[.int .i64 x, .int .i64 n.kind, .string n.data, .slice h.A n.ptrs.length h.a, .int .i64 n.size, .int .i64 n.count, .slice h.B n.items.length h.b] lvT)
 have r0 := heap_alloc_new w (.cells #[.int .i64 x, .int .i64 n.kind, .string n.data, .slice h.A n.ptrs.length h.a, .int .i64 n.size, .int .i64 n.count, .slice h.B n.items.length h.b] lvT)
 have HC := Lib.hid (szN_any m n h _ left S (hn.below q0.2) h0 h1)
 have HB0 := Lib.hid q0.2
 obtain ⟨a0, a1, a2, a3, a4, a5, a6⟩ := cellsV r0
 clear q0 r0 hn
 by_cases c : left < (totN m n : Int)
 · rw [szR_neg c] at HC ⊢
   clear c h0 h1
   go_enter Tryz.func45, Tryz.ntmps45
   go_wp2_with fail
   generalize w.alloc (.cells #[.int .i64 x, .int .i64 n.kind, .string n.data, .slice h.A n.ptrs.length h.a, .int .i64 n.size, .int .i64 n.count, .slice h.B n.items.length h.b] lvT) = W at *
   clear a0 a1 a2 a3 a4 a5 a6
   refine HC.out.mono ?_
   rintro e w1 ⟨rfl, hb1⟩
   have HB1 := Lib.hid (HB0.out.trans (hb1.mono HB0.out.size))
   clear hb1
   go_wp2
   go_ret
   exact ⟨rfl, HB1.out⟩
 · rw [szR_pos (by omega)] at HC ⊢
   obtain ⟨z, hz⟩ : ∃ z, left - (totN m n : Int) = z := ⟨_, rfl⟩
   rw [hz] at HC ⊢
   have hz0 : ¬ z < 0 := by omega
   clear c h0 h1 hz
   go_enter Tryz.func45, Tryz.ntmps45
   go_wp2_with fail
   generalize w.alloc (.cells #[.int .i64 x, .int .i64 n.kind, .string n.data, .slice h.A n.ptrs.length h.a, .int .i64 n.size, .int .i64 n.count, .slice h.B n.items.length h.b] lvT) = W at *
   clear a0 a1 a2 a3 a4 a5 a6
   refine HC.out.mono ?_
   rintro e w1 ⟨rfl, hb1⟩
   have HB1 := Lib.hid (HB0.out.trans (hb1.mono HB0.out.size))
   clear hb1
   go_wp2
   go_ret
   exact ⟨rfl, HB1.out⟩
theorem szValS_any (m : Nat) (A : Option Addr) (c : Nat) (vs : List Vl) (w : World) (left : Int) (S : Nat → Prop) (hvs : ValsAt w S m A vs) (hlen : vs.length ≤ maxLen) (h0 : 0 ≤ left) (h1 : left ≤ 2000000) :
 Calls Tryz.prog 18 #[.slice A vs.length c, .int .i64 left] w fun e w' => e = .returned (.int .i64 (szR left (totV m vs))) ∧ Below w.heap.size w w' := by
 unfold maxLen at hlen
 obtain ⟨l, hl⟩ : ∃ l : List Nd, l = vs.map (·.nd) := ⟨_, rfl⟩
 have hll : l.length = vs.length := by rw [hl, List.length_map]
 have hlk : ∀ k (h : k < l.length) (h' : k < vs.length), l[k] = vs[k].nd := fun k h h' => by subst hl; rw [List.getElem_map]
 have HT : Hid (totV m vs = vs.length + (l.map (totN m)).sum) := Lib.hid (by unfold totV; rw [← hl, totL_succ, sum_one, hll])
 have HL := Lib.hid hvs
 have HLL := Lib.hid hll
 have HLK := Lib.hid hlk
 clear hvs hl hll hlk
 by_cases c1 : left - (vs.length : Int) < 0
 · have HE := Lib.hid (szR_neg (left := left) (t := totV m vs) (by rw [HT.out]; omega))
   go_enter Tryz.func18, Tryz.ntmps18
   go_wp2
   go_ret
   exact ⟨by rw [HE.out]; rfl, Below.refl _ _⟩
 have c1' : 0 ≤ left - (vs.length : Int) := by omega
 go_enter Tryz.func18, Tryz.ntmps18
 go_wp2
 go_loopw [1, 5] (fun q i wr => ∃ (k : Nat) (z : Int), q = .int .i64 z ∧ i = .int .i64 k ∧ k ≤ vs.length ∧ 0 ≤ z ∧ z ≤ 2000000 ∧ Hid (z = left - (vs.length : Int) - (((l.take k).map (totN m)).sum : Nat)) ∧ Hid (Below w.heap.size w wr)) (fun _ i _ => vs.length - (intOf i).toNat)
 case atStart => exact ⟨0, _, rfl, rfl, by omega, c1', by omega, Lib.hid (by simp), Lib.hid (Below.refl _ _)⟩
 case round =>
  obtain ⟨k, z, rfl, rfl, hk, hz0, hz1, HZ, HB⟩ := hrel
  by_cases hlt : k < vs.length
  · obtain ⟨x, hd, rfl, hxb, hva⟩ := (HL.out.below HB.out).at_ hlt
    have hlt2 : k < l.length := by rw [HLL.out]; exact hlt
    have HS := Lib.hid (sum_take_succ l (totN m) k hlt2)
    have HW := Lib.hid (sum_take_le l (totN m) (k + 1))
    have hlk := HLK.out k hlt2 hlt
    obtain ⟨n9, d9, hd9⟩ : ∃ n9 d9, vs[k] = Vl.mk n9 d9 := ⟨_, _, rfl⟩
    rw [hd9] at hva hlk
    rw [hlk] at HS
    clear hlk hd9
    have hnd : NdAt wr S m d9 hd := hva.nd
    obtain ⟨d0, d1, d2, d3, d4, d5, d6⟩ := hva.cells
    have HP := Lib.hid (szVal_a m n9 d9 hd wr z S hnd hz0 hz1)
    clear hnd hva
    by_cases c2 : z < (totN m d9 : Int)
    · have HE := Lib.hid (szR_neg (left := left) (t := totV m vs) (by rw [HT.out]; have := HZ.out; have := HS.out; have := HW.out; dsimp only at *; omega))
      rw [szR_neg c2] at HP
      go_wp2_with fail
      refine HP.out.mono ?_
      rintro e w1 ⟨rfl, hb1⟩
      have HB1 := Lib.hid (HB.out.trans (hb1.mono HB.out.size))
      clear hb1
      go_wp2
      go_ret
      exact ⟨by rw [HE.out]; rfl, HB1.out⟩
    · rw [szR_pos (by omega)] at HP
      have c3 : 0 ≤ z - (totN m d9 : Int) := by omega
      have HZ2 : Hid (z - (totN m d9 : Int) = left - (vs.length : Int) - (((l.take (k + 1)).map (totN m)).sum : Nat)) := Lib.hid (by rw [HS.out, HZ.out]; dsimp only; omega)
      go_wp2_with fail
      refine HP.out.mono ?_
      rintro e w1 ⟨rfl, hb1⟩
      have HB1 := Lib.hid (HB.out.trans (hb1.mono HB.out.size))
      clear hb1
      go_wp2
      go_roundw
      case rel => exact ⟨k + 1, _, rfl, by go_num, by omega, c3, by omega, HZ2, HB1⟩
      case measure => simp [intOf]; omega
  · obtain rfl : k = vs.length := by omega
    rw [← HLL.out, List.take_of_length_le (Nat.le_refl _), HLL.out] at HZ
    have HE := Lib.hid (szR_pos (left := left) (t := totV m vs) (by rw [HT.out]; have := HZ.out; omega))
    go_wp2
    go_ret
    exact ⟨by rw [HE.out, HT.out]; exact ret_int (by have := HZ.out; omega), HB.out⟩
theorem totV_sum {w : World} {S : Nat → Prop} {m : Nat} {A : Option Addr} {vs : List Vl} (h : ValsAt w S m A vs) : totV m vs = vs.length + sumV vs := by
 have : ∀ (u : List Vl), (∀ v ∈ u, ∃ hd, NdAt w S m v.nd hd) → totV m u = u.length + sumV u := by
  intro u
  induction u with
  | nil => intro _; rfl
  | cons v t ih =>
   intro hu
   have h1 := ih (fun v hv => hu v (List.mem_cons_of_mem _ hv))
   obtain ⟨hd, hn⟩ := hu v List.mem_cons_self
   have h2 := totN_siz hn
   unfold totV at h1 ⊢
   rw [totL_succ] at h1 ⊢
   rw [List.map_cons, List.map_cons, List.sum_cons, h1, List.length_cons, sumV, h2]
   omega
 refine this vs (fun v hv => ?_)
 obtain ⟨i, hi, rfl⟩ := List.mem_iff_getElem.1 hv
 obtain ⟨x, hd, -, -, hva⟩ := h.at_ hi
 exact ⟨hd, hva.nd⟩
end Go.Proofs.YtehhbbdaeonebaaGreatDoor
