/- Texts of the proof of the law FnExactAccessText, side by side: part 4. -/
import Derived.Lib.AppendIntMem
import Derived.Test.YtfnecflkahmjoaaDoorRows
import Derived.Lib.LaidTab
import Derived.Stop.LaidErr
import Derived.MakeChecks
import Derived.Lib.SmallJoins
import Derived.Test.YtfnecflkahmjoaaDoorMExactAccessText03
set_option maxHeartbeats 8000000
set_option maxRecDepth 100000
namespace Go.Proofs.YtfnecflkahmjoaaDoor
open Go.RowKit Go.Deep
abbrev TabP (w : World) : Prop := Lib.TabIs Tryd.prog w "internal/strconv.uint64pow10" .u64 Lib.pow10Tab
theorem TabP.below {w : World} (h : TabP w) {W : World} (hW : Below w.heap.size w W) : TabP W := Lib.tabBelow_of_tabIs h W hW
theorem itoa_a (n : Int) (h : -9223372036854775808 ≤ n ∧ n ≤ 9223372036854775807) (w : World) (hT : TabP w) :
 Calls Tryd.prog 14 #[.int .i64 n] w fun e w' => e = .returned (.string (decB n)) ∧ Below w.heap.size w w' := by
 refine (Tryd.strconv_Itoa n h.1 h.2 w hT).mono ?_
 rintro e w' ⟨rfl, kk, os, rfl⟩
 refine ⟨rfl, ?_⟩
 refine ⟨rfl, rfl, rfl, ?_, fun b hb => ?_⟩
 · show w.heap.size ≤ (w.heap ++ os).size
   rw [Array.size_append]; omega
 · show (w.heap ++ os)[b]? = w.heap[b]?
   rw [Array.getElem?_append_left hb]
theorem ptC_len (b : Nat) : ∀ L, (ptC b L).length = L.length * 2
 | [] => rfl
 | p :: r => by show (ptC b r).length + 1 + 1 = _; rw [ptC_len b r, List.length_cons]; omega
theorem ptC_app (b : Nat) : ∀ L M, ptC b (L ++ M) = ptC b L ++ ptC b M
 | [], _ => rfl
 | p :: r, M => by rw [List.cons_append, ptC, ptC_app b r M]; rfl
theorem ptC_at (b : Nat) : ∀ (L : List Pt) (i : Nat) (h : i < L.length), (ptC b L)[i * 2]? = some (.string (L[i]).s) ∧ (ptC b L)[i * 2 + 1]? = some (.pointer (some ⟨b, (L[i]).o, none⟩))
 | [], i, h => absurd h (Nat.not_lt_zero _)
 | p :: r, 0, _ => ⟨rfl, rfl⟩
 | p :: r, i + 1, h => by
   have := ptC_at b r i (by simpa using h)
   rw [show (i + 1) * 2 = i * 2 + 1 + 1 by omega]
   exact this
theorem add_offP (x : Addr) (n m : Nat) (hm : 0 < m) : (⟨(x.add n).block, (x.add n).off + m, none⟩ : Addr) = x.add (n + m) := by
 by_cases h : n = 0
 · subst h
   simp only [Addr.add, if_true, Nat.zero_add]
   rw [if_neg (by omega)]
 · simp only [Addr.add, h, if_false]
   rw [if_neg (by omega)]
   simp <;> omega
def PtsAt (w : World) (b : Nat) (x : Addr) (L : List Pt) : Prop := x.block < w.heap.size ∧ ∀ i (h : i < L.length), w.cell? (x.add (i * 2)) = some (.string (L[i]).s) ∧ w.cell? ⟨(x.add (i * 2)).block, (x.add (i * 2)).off + 1, none⟩ = some (.pointer (some ⟨b, (L[i]).o, none⟩))
theorem addP_block (x : Addr) (n : Nat) : (x.add n).block = x.block := by unfold Addr.add; split <;> rfl
theorem PtsAt.below {w w' : World} {b : Nat} {x : Addr} {L : List Pt} (h : PtsAt w b x L) (hb : Below w.heap.size w w') : PtsAt w' b x L :=
 ⟨Nat.lt_of_lt_of_le h.1 hb.size, fun i hi => ⟨(hb.cell (p := x.add (i * 2)) (by rw [addP_block]; exact h.1)).trans (h.2 i hi).1, (hb.cell (p := ⟨(x.add (i * 2)).block, (x.add (i * 2)).off + 1, none⟩) (by show (x.add (i * 2)).block < _; rw [addP_block]; exact h.1)).trans (h.2 i hi).2⟩⟩
theorem pts_of_own {w : World} {B b : Nat} {v : Value} {L : List Pt} (h : w.ownsRow B lineT 2 v L.length (ptC b L)) (hL : 0 < L.length) : ∃ x cap, v = .slice (some x) L.length cap ∧ PtsAt w b x L := by
 rcases h.2 with ⟨rfl, h0⟩ | ⟨g, cap, cur, rfl, _, hg, _⟩
 · omega
 · refine ⟨⟨g, 0, none⟩, cap, rfl, row_lt hg, fun i hi => ?_⟩
   obtain ⟨h0, h1⟩ := ptC_at b L i hi
   exact ⟨h.cells (g := g) rfl _ _ h0, by rw [add_offP _ _ 1 (by decide)]; exact h.cells (g := g) rfl _ _ h1⟩
theorem parts_own {b : Nat} {L : List Pt} {w : World} {e : Ending} {w' : World} (hL : L.length ≤ 10) (h : PartsQ b L w e w') : e = .returned (.slice (some ⟨w.heap.size, 0, none⟩) L.length L.length) ∧ w'.ownsRow w.heap.size lineT 2 (.slice (some ⟨w.heap.size, 0, none⟩) L.length L.length) L.length (ptC b L) ∧ Below w.heap.size w w' :=
 ⟨h.1, ⟨ptC_len b L, .inr ⟨w.heap.size, L.length, _, rfl, Nat.le_refl _, h.2.1, Nat.le_refl _, by unfold maxLen; omega, by simp [ptC_len], by simp [← ptC_len b L]⟩⟩, h.2.2⟩
theorem own_belowP {w w' : World} {B e z n : Nat} {v : Value} {xs : List Value} (h : w.ownsRow B e z v n xs) (hb : Below w.heap.size w w') : w'.ownsRow B e z v n xs := h.kept (row := none) ⟨hb.os, hb.tape, hb.output, hb.size, fun k hk _ => hb.block k hk⟩ (by cases hh : v.ownBlock with | none => exact .inl rfl | some g => exact .inr (by simp))
theorem infoLine : (Tryd.prog.info? lineT).map (fun i => (i.zero, i.size, i.bytes)) = some (some (.agg #[.string ⟨#[]⟩, .pointer none]), 2, 24) := by kernel_rfl
theorem cellsP {w : World} {g : Nat} {v0 v1 : Value} {T : TypeId} (h : w.heap[g]? = some (.cells #[v0, v1] T (0, 0))) : w.cell? ⟨g, 0, none⟩ = some v0 ∧ w.cell? ⟨g, 1, none⟩ = some v1 := by
 simp [World.cell?, h]
theorem below_box {b : Nat} {w w' : World} {o : Obj} (h : Below w.heap.size w w') (hr : w.heap[b]? = some o) : w'.heap[b]? = some o := (h.block _ (row_lt hr)).trans hr
theorem join_snoc (p : Pt) : ∀ (L : List Pt) (t : ByteArray), joinP t (L ++ [p]) = joinP t L ++ (p.s ++ decB p.v)
 | [], _ => rfl
 | q :: r, t => by rw [List.cons_append, joinP, join_snoc p r, joinP]
def PtB (q : Pt) : Prop := q.s.size ≤ 12 ∧ (-1000000000000000000 ≤ q.v ∧ q.v ≤ 1000000000000000000)
theorem join_size : ∀ (t : ByteArray) (L : List Pt), (∀ q ∈ L, PtB q) → (joinP t L).size ≤ t.size + 33 * L.length
 | _, [], _ => Nat.le_refl _
 | t, q :: r, h => by
   have h1 := join_size (t ++ (q.s ++ decB q.v)) r (fun p hp => h p (List.mem_cons_of_mem _ hp))
   obtain ⟨h2, h3⟩ := h q (List.mem_cons_self ..)
   have h4 := decB_size h3
   rw [joinP]
   rw [ByteArray.size_append, ByteArray.size_append] at h1
   rw [List.length_cons]
   omega
theorem implText_n (nm : ByteArray) (k at_ sz tu tg pl : Int) (w : World) (hs : nm.size ≤ maxLen) (ht : i64b tu) (hp : i64b pl) (hT : TabP w) (hA : accB nm k at_ sz tu tg pl = true) (htg : tg < 0) :
 Calls Tryd.prog 7 #[accV nm k at_ sz tu tg pl] w fun e w' => e = .returned (.string (accT nm k at_ sz tu tg pl)) ∧ Below w.heap.size w w' := by
 have HOK := Lib.hid (fun W => implAccessOk_any nm k at_ sz tu tg pl W hs ht hp)
 have HTG := Lib.hid (fun W => isTagged_any nm k at_ sz tu tg pl W)
 have HTB := Lib.hid (fun (W : World) (hW : Below w.heap.size w W) => hT.below hW)
 obtain ⟨b1, b2, b3, b4, b5, b6⟩ := acc_txt hA
 have HB0 := Lib.hid ((Below.refl w.heap.size w).alloc (Nat.le_refl _) (.cells #[.string nm, .int .i64 k, .int .i64 at_, .int .i64 sz, .int .i64 tu, .int .i64 tg, .int .i64 pl] 26))
 have R0 := Lib.hid (heap_alloc_new w (.cells #[.string nm, .int .i64 k, .int .i64 at_, .int .i64 sz, .int .i64 tu, .int .i64 tg, .int .i64 pl] 26))
 have hd : decide (0 ≤ tg) = false := by simp; omega
 have HX : Hid (accT nm k at_ sz tu tg pl = joinP nm (kindL k at_ sz tu)) := Lib.hid (by unfold accT accTxt; rw [if_pos hA]; unfold tagLs; rw [if_pos htg, List.append_nil])
 have HKP := Lib.hid (fun W (hr : W.heap[w.heap.size]? = some (.cells #[.string nm, .int .i64 k, .int .i64 at_, .int .i64 sz, .int .i64 tu, .int .i64 tg, .int .i64 pl] 26 (0, 0))) => kindParts_a w.heap.size nm k at_ sz tu tg pl b6 W hr)
 have hkl : 1 ≤ (kindL k at_ sz tu).length ∧ (kindL k at_ sz tu).length ≤ 3 := by rcases b6 with rfl | rfl | rfl <;> exact ⟨by simp [kindL], by simp [kindL]⟩
 have HLB0 : Hid (∀ q ∈ kindL k at_ sz tu, PtB q) := Lib.hid (by
  intro q hq
  rcases b6 with rfl | rfl | rfl
  · simp [kindL] at hq
    rcases hq with rfl | rfl
    · exact ⟨by dsimp only; decide, by dsimp only; omega⟩
    · exact ⟨by dsimp only; decide, by dsimp only; omega⟩
  · simp [kindL] at hq
    rcases hq with rfl | rfl | rfl
    · exact ⟨by dsimp only; decide, by dsimp only; omega⟩
    · exact ⟨by dsimp only; decide, by dsimp only; omega⟩
    · exact ⟨by dsimp only; decide, by dsimp only; omega⟩
  · simp [kindL] at hq
    subst hq
    exact ⟨by dsimp only; decide, by dsimp only; omega⟩)
 have HCV0 : Hid (∀ V : World, V.heap[w.heap.size]? = some (.cells #[.string nm, .int .i64 k, .int .i64 at_, .int .i64 sz, .int .i64 tu, .int .i64 tg, .int .i64 pl] 26 (0, 0)) → ∀ q ∈ kindL k at_ sz tu, V.cell? ⟨w.heap.size, q.o, none⟩ = some (.int .i64 q.v)) := Lib.hid (by
  intro V hV q hq
  obtain ⟨a0, a1, a2, a3, a4, a5, a6⟩ := cells7 hV
  rcases b6 with rfl | rfl | rfl
  · simp [kindL] at hq
    rcases hq with rfl | rfl
    · exact a2
    · exact a4
  · simp [kindL] at hq
    rcases hq with rfl | rfl | rfl
    · exact a2
    · exact a3
    · exact a4
  · simp [kindL] at hq
    subst hq
    exact a2)
 rw [hA] at HOK
 rw [hd] at HTG
 have HB1S := Lib.hid b1
 have HTGB : Hid (True) := Lib.hid (trivial)
 clear hA hd b1 b2 b3 b4 b5 b6 hT hs ht hp
 generalize kindL k at_ sz tu = L at *
 unfold accV at HOK HTG ⊢
 obtain ⟨a0, a1, a2, a3, a4, a5, a6⟩ := cells7 R0.out
 go_enter Tryd.func7, Tryd.ntmps7
 go_wp2_with fail
 clear a0 a1 a2 a3 a4 a5 a6
 generalize w.alloc (.cells #[.string nm, .int .i64 k, .int .i64 at_, .int .i64 sz, .int .i64 tu, .int .i64 tg, .int .i64 pl] 26) = W at *
 refine (HOK.out _).mono ?_
 rintro e w1 ⟨rfl, hb1⟩
 have R1 := Lib.hid (kept7 R0.out hb1)
 have HB1 := Lib.hid (HB0.out.trans (hb1.mono HB0.out.size))
 clear hb1
 go_wp2_with fail
 refine (HKP.out _ R1.out).mono ?_
 intro e w2 hq2
 obtain ⟨rfl, ho2, hb2⟩ := parts_own (by omega) hq2
 have R2 := Lib.hid (kept7 R1.out hb2)
 have HB2 := Lib.hid (HB1.out.trans (hb2.mono HB1.out.size))
 have HO2 := Lib.hid ho2
 have HS1 := Lib.hid hb2.size
 clear hb2 ho2 hq2
 obtain ⟨a0, a1, a2, a3, a4, a5, a6⟩ := cells7 R2.out
 go_wp2_with fail
 clear a0 a1 a2 a3 a4 a5 a6
 refine (HTG.out _).mono ?_
 rintro e w3 ⟨rfl, hb3⟩
 have R3 := Lib.hid (kept7 R2.out hb3)
 have HB3 := Lib.hid (HB2.out.trans (hb3.mono HB2.out.size))
 have HO3 := Lib.hid (own_belowP HO2.out hb3)
 have HS3 := Lib.hid (Nat.le_trans HS1.out hb3.size)
 clear hb3
 obtain ⟨x, cap, hsl, hpts⟩ := pts_of_own HO3.out (by omega)
 rw [hsl]
 have VP := Lib.hid hpts
 have VB := R3
 have HBV := HB3
 have HLB := HLB0
 have HCV := HCV0
 have HLL : Hid (nm.size + 33 * L.length ≤ 400) := Lib.hid (by have := HB1S.out; omega)
 clear hsl hpts
 generalize L = LL at *
 obtain ⟨a0, a1, a2, a3, a4, a5, a6⟩ := cells7 VB.out
 go_wp2
 clear a0 a1 a2 a3 a4 a5 a6
 go_loopw [4, 20] (fun t i wr => ∃ (j : Nat) (u : ByteArray), i = .int .i64 j ∧ t = .string u ∧ j ≤ LL.length ∧ Hid (u = joinP nm (LL.take j)) ∧ Hid (Below w3.heap.size w3 wr)) (fun _ i _ => LL.length - (intOf i).toNat)
 case atStart => exact ⟨0, nm, rfl, rfl, by omega, Lib.hid rfl, Lib.hid (Below.refl _ _)⟩
 case round =>
  obtain ⟨j, u, rfl, rfl, hj, HU, HB⟩ := hrel
  have HSZ := Lib.hid HB.out.size
  by_cases hlt : j < LL.length
  · have hus : u.size ≤ 400 := by
     have h1 := join_size nm (LL.take j) (fun q hq => HLB.out q (List.mem_of_mem_take hq))
     rw [← HU.out, List.length_take, Nat.min_eq_left hj] at h1
     have h2 := HLL.out
     omega
    obtain ⟨c0, c1⟩ := (VP.out.below HB.out).2 j hlt
    have hqb := HLB.out _ (List.getElem_mem hlt)
    have hcv := HCV.out _ (below_box HB.out VB.out) _ (List.getElem_mem hlt)
    have HTK : Hid (joinP nm (LL.take (j + 1)) = u ++ ((LL[j]).s ++ decB (LL[j]).v)) := Lib.hid (by rw [HU.out, List.take_succ_eq_append_getElem hlt, join_snoc])
    generalize LL[j] = q at *
    obtain ⟨qs, qo, qv⟩ := q
    dsimp only at c0 c1 hqb hcv HTK
    have hqs := hqb.1
    have hD := decB_size (t := qv) hqb.2
    have HIT : Hid (∀ W : World, Below (wr.alloc (.cells #[.string qs, .pointer (some ⟨w.heap.size, qo, none⟩)] lineT)).heap.size (wr.alloc (.cells #[.string qs, .pointer (some ⟨w.heap.size, qo, none⟩)] lineT)) W → Calls Tryd.prog 14 #[.int .i64 qv] W fun e w' => e = .returned (.string (decB qv)) ∧ Below W.heap.size W w') := Lib.hid fun W hW => by
     have hw1 : Below wr.heap.size wr W := ((Below.refl wr.heap.size wr).alloc (Nat.le_refl _) _).trans (hW.mono (by simp))
     have hw2 : Below w.heap.size w wr := HBV.out.trans (HB.out.mono HBV.out.size)
     exact itoa_a qv (by have h9 := hqb.2; dsimp only at h9; omega) W (HTB.out _ (hw2.trans (hw1.mono hw2.size)))
    generalize decB qv = D at *
    have GA := Lib.hid (heap_alloc_new wr (.cells #[.string qs, .pointer (some ⟨w.heap.size, qo, none⟩)] lineT))
    have hba : Below wr.heap.size wr (wr.alloc (.cells #[.string qs, .pointer (some ⟨w.heap.size, qo, none⟩)] lineT)) := (Below.refl _ _).alloc (Nat.le_refl _) _
    have hlw : w.heap.size < wr.heap.size := by have := row_lt VB.out; have := HSZ.out; omega
    have G1 := Lib.hid ((hba.cell (p := ⟨w.heap.size, qo, none⟩) hlw).trans hcv)
    have GL : Hid (w.heap.size < (wr.alloc (.cells #[.string qs, .pointer (some ⟨w.heap.size, qo, none⟩)] lineT)).heap.size) := Lib.hid (by simp; omega)
    have HBA := Lib.hid (HB.out.trans (hba.mono HSZ.out))
    clear hcv hqb hlw hba
    go_wp2_with fail
    clear c0 c1
    obtain ⟨gp, hgp⟩ : ∃ gp, gp = wr.heap.size := ⟨_, rfl⟩
    rw [← hgp] at GA ⊢
    clear hgp
    generalize wr.alloc (.cells #[.string qs, .pointer (some ⟨w.heap.size, qo, none⟩)] lineT) = W4 at *
    have G0 := GA
    have HDR : Hid (Below W4.heap.size W4 W4.drew) := Lib.hid ⟨rfl, rfl, rfl, Nat.le_refl _, fun _ _ => rfl⟩
    refine wp_region_held_drew (S := (fun V => V.heap[gp]? = some (.cells #[.string qs, .pointer (some ⟨w.heap.size, qo, none⟩)] lineT (0, 0)) ∧ V.cell? ⟨w.heap.size, qo, none⟩ = some (.int .i64 qv))) (by kernel_rfl) ?_ (fun hH0 => ?_)
    · exact ⟨G0.out, G1.out⟩
    refine wpAnyH_take (i := 0) (v := ?_) rfl (by kernel_rfl) (by kernel_rfl) (by kernel_rfl) (fun _ _ _ h => h) (Or.inl ⟨by rfl, ?_⟩) (by assumption) ?_
    rotate_left
    · intro w hSw
      (try dsimp only at hSw)
      obtain ⟨s0, s1⟩ := cellsP hSw.1
      have s2 := hSw.2
      go_simp
      try with_reducible rfl
    try simp only [List.getElem_toArray, List.getElem_cons_succ, List.getElem_cons_zero, Act.put, List.setIfInBounds_toArray, List.set_cons_zero, List.set_cons_succ]
    refine wpAnyH_take (i := 1) (v := ?_) rfl (by kernel_rfl) (by kernel_rfl) (by kernel_rfl) (fun _ _ _ h => h) (Or.inl ⟨by rfl, ?_⟩) (by assumption) ?_
    rotate_left
    · intro w hSw
      (try dsimp only at hSw)
      obtain ⟨s0, s1⟩ := cellsP hSw.1
      have s2 := hSw.2
      go_simp
      try with_reducible rfl
    try simp only [List.getElem_toArray, List.getElem_cons_succ, List.getElem_cons_zero, Act.put, List.setIfInBounds_toArray, List.set_cons_zero, List.set_cons_succ]
    refine wpAnyH_take (i := 2) (v := ?_) rfl (by kernel_rfl) (by kernel_rfl) (by kernel_rfl) (fun _ _ _ h => h) (Or.inl ⟨by rfl, ?_⟩) (by assumption) ?_
    rotate_left
    · intro w hSw
      (try dsimp only at hSw)
      obtain ⟨s0, s1⟩ := cellsP hSw.1
      have s2 := hSw.2
      go_simp
      try with_reducible rfl
    try simp only [List.getElem_toArray, List.getElem_cons_succ, List.getElem_cons_zero, Act.put, List.setIfInBounds_toArray, List.set_cons_zero, List.set_cons_succ]
    refine wpAnyH_take (i := 3) (v := ?_) rfl (by kernel_rfl) (by kernel_rfl) (by kernel_rfl) (fun _ _ _ h => h) (Or.inl ⟨by rfl, ?_⟩) (by assumption) ?_
    rotate_left
    · intro w hSw
      (try dsimp only at hSw)
      obtain ⟨s0, s1⟩ := cellsP hSw.1
      have s2 := hSw.2
      go_simp
      try with_reducible rfl
    try simp only [List.getElem_toArray, List.getElem_cons_succ, List.getElem_cons_zero, Act.put, List.setIfInBounds_toArray, List.set_cons_zero, List.set_cons_succ]
    refine wpAnyH_take (i := 4) (v := ?_) rfl (by kernel_rfl) (by kernel_rfl) (by kernel_rfl) (fun _ _ _ h => h) (Or.inl ⟨by rfl, ?_⟩) (by assumption) ?_
    rotate_left
    · intro w hSw
      (try dsimp only at hSw)
      obtain ⟨s0, s1⟩ := cellsP hSw.1
      have s2 := hSw.2
      go_simp
      try with_reducible rfl
    try simp only [List.getElem_toArray, List.getElem_cons_succ, List.getElem_cons_zero, Act.put, List.setIfInBounds_toArray, List.set_cons_zero, List.set_cons_succ]
    refine wpAnyH_take (i := 5) (v := ?_) rfl (by kernel_rfl) (by kernel_rfl) (by kernel_rfl) (fun _ _ _ h => h) (Or.inl ⟨by rfl, ?_⟩) (by assumption) ?_
    rotate_left
    · intro w hSw
      (try dsimp only at hSw)
      obtain ⟨s0, s1⟩ := cellsP hSw.1
      have s2 := hSw.2
      go_simp
      try with_reducible rfl
    try simp only [List.getElem_toArray, List.getElem_cons_succ, List.getElem_cons_zero, Act.put, List.setIfInBounds_toArray, List.set_cons_zero, List.set_cons_succ]
    refine wpAnyH_take (i := 6) (v := ?_) rfl (by kernel_rfl) (by kernel_rfl) (by kernel_rfl) (fun _ _ _ h => h) (Or.inl ⟨by rfl, ?_⟩) (by assumption) ?_
    rotate_left
    · intro w hSw
      (try dsimp only at hSw)
      obtain ⟨s0, s1⟩ := cellsP hSw.1
      have s2 := hSw.2
      go_simp
      try with_reducible rfl
    try simp only [List.getElem_toArray, List.getElem_cons_succ, List.getElem_cons_zero, Act.put, List.setIfInBounds_toArray, List.set_cons_zero, List.set_cons_succ]
    refine wpAnyH_ready (rs := [7]) (by kernel_rfl) (by simp) ?_
    refine AllReadyH.cons rfl (fun K hK => ?_) AllReadyH.nil
    go_simp
    go_at_call 14
    refine (HIT.out _ HDR.out).mono ?_
    rintro e w3 ⟨rfl, hb3⟩
    have HC3 := Lib.hid (HDR.out.trans (hb3.mono HDR.out.size))
    have v0 := (HC3.out.block _ (row_lt G0.out)).trans G0.out
    have v1 := (HC3.out.cell (p := ⟨w.heap.size, qo, none⟩) (by have := GL.out; exact this)).trans G1.out
    clear hb3
    go_wp2_with fail
    refine hK.out _ _ ⟨v0, v1⟩ (fun hHn => ?_)
    clear hK K hH0 v0 v1
    try simp only [List.getElem_toArray, List.getElem_cons_succ, List.getElem_cons_zero, Act.put, List.setIfInBounds_toArray, List.set_cons_zero, List.set_cons_succ]
    refine wpAnyH_take (i := 8) (v := .string (qs ++ D)) rfl (by kernel_rfl) (by kernel_rfl) (by kernel_rfl) (fun _ _ _ h => h) (Or.inl ⟨by rfl, ?_⟩) (by assumption) ?_
    · intro w hSw
      go_simp
      try omega
    try simp only [List.getElem_toArray, List.getElem_cons_succ, List.getElem_cons_zero, Act.put, List.setIfInBounds_toArray, List.set_cons_zero, List.set_cons_succ]
    refine wpAnyH_take (i := 9) (v := .string (u ++ (qs ++ D))) rfl (by kernel_rfl) (by kernel_rfl) (by kernel_rfl) (fun _ _ _ h => h) (Or.inl ⟨by rfl, ?_⟩) (by assumption) ?_
    · intro w hSw
      go_simp
      try omega
    try simp only [List.getElem_toArray, List.getElem_cons_succ, List.getElem_cons_zero, Act.put, List.setIfInBounds_toArray, List.set_cons_zero, List.set_cons_succ]
    refine wpAnyH_take (i := 10) (v := ?_) rfl (by kernel_rfl) (by kernel_rfl) (by kernel_rfl) (fun _ _ _ h => h) (Or.inl ⟨by rfl, ?_⟩) (by assumption) ?_
    rotate_left
    · intro w hSw
      (try dsimp only at hSw)
      go_simp
      try with_reducible rfl
    try simp only [List.getElem_toArray, List.getElem_cons_succ, List.getElem_cons_zero, Act.put, List.setIfInBounds_toArray, List.set_cons_zero, List.set_cons_succ]
    refine wpAnyH_done (by kernel_rfl) ?_ _
    clear hHn
    go_wp2
    have HB5 := Lib.hid (HBA.out.trans (HC3.out.mono HBA.out.size))
    go_roundw
    case rel => exact ⟨j + 1, u ++ (qs ++ D), by go_num, rfl, by omega, Lib.hid HTK.out.symm, HB5⟩
    case measure => simp [intOf]; omega
  · obtain rfl : j = LL.length := by omega
    have HF : Hid (accT nm k at_ sz tu tg pl = u) := Lib.hid (by rw [HX.out, HU.out, List.take_length])
    have HBZ := Lib.hid (HBV.out.trans (HB.out.mono HBV.out.size))
    go_wp2
    go_ret
    exact ⟨by rw [HF.out]; rfl, HBZ.out⟩
theorem implText_t (nm : ByteArray) (k at_ sz tu tg pl : Int) (w : World) (hs : nm.size ≤ maxLen) (ht : i64b tu) (hp : i64b pl) (hT : TabP w) (hA : accB nm k at_ sz tu tg pl = true) (htg : 0 ≤ tg) :
 Calls Tryd.prog 7 #[accV nm k at_ sz tu tg pl] w fun e w' => e = .returned (.string (accT nm k at_ sz tu tg pl)) ∧ Below w.heap.size w w' := by
 have HOK := Lib.hid (fun W => implAccessOk_any nm k at_ sz tu tg pl W hs ht hp)
 have HTG := Lib.hid (fun W => isTagged_any nm k at_ sz tu tg pl W)
 have HTB := Lib.hid (fun (W : World) (hW : Below w.heap.size w W) => hT.below hW)
 obtain ⟨b1, b2, b3, b4, b5, b6⟩ := acc_txt hA
 have HB0 := Lib.hid ((Below.refl w.heap.size w).alloc (Nat.le_refl _) (.cells #[.string nm, .int .i64 k, .int .i64 at_, .int .i64 sz, .int .i64 tu, .int .i64 tg, .int .i64 pl] 26))
 have R0 := Lib.hid (heap_alloc_new w (.cells #[.string nm, .int .i64 k, .int .i64 at_, .int .i64 sz, .int .i64 tu, .int .i64 tg, .int .i64 pl] 26))
 have hd : decide (0 ≤ tg) = true := by simp; omega
 have HX : Hid (accT nm k at_ sz tu tg pl = joinP nm (kindL k at_ sz tu ++ [⟨wIf, 5, tg⟩, ⟨wTells, 6, pl⟩])) := Lib.hid (by unfold accT accTxt; rw [if_pos hA]; unfold tagLs; rw [if_neg (by omega)])
 have HKP := Lib.hid (fun W (hr : W.heap[w.heap.size]? = some (.cells #[.string nm, .int .i64 k, .int .i64 at_, .int .i64 sz, .int .i64 tu, .int .i64 tg, .int .i64 pl] 26 (0, 0))) => kindParts_a w.heap.size nm k at_ sz tu tg pl b6 W hr)
 have hkl : 1 ≤ (kindL k at_ sz tu).length ∧ (kindL k at_ sz tu).length ≤ 3 := by rcases b6 with rfl | rfl | rfl <;> exact ⟨by simp [kindL], by simp [kindL]⟩
 have HLB0 : Hid (∀ q ∈ kindL k at_ sz tu, PtB q) := Lib.hid (by
  intro q hq
  rcases b6 with rfl | rfl | rfl
  · simp [kindL] at hq
    rcases hq with rfl | rfl
    · exact ⟨by dsimp only; decide, by dsimp only; omega⟩
    · exact ⟨by dsimp only; decide, by dsimp only; omega⟩
  · simp [kindL] at hq
    rcases hq with rfl | rfl | rfl
    · exact ⟨by dsimp only; decide, by dsimp only; omega⟩
    · exact ⟨by dsimp only; decide, by dsimp only; omega⟩
    · exact ⟨by dsimp only; decide, by dsimp only; omega⟩
  · simp [kindL] at hq
    subst hq
    exact ⟨by dsimp only; decide, by dsimp only; omega⟩)
 have HCV0 : Hid (∀ V : World, V.heap[w.heap.size]? = some (.cells #[.string nm, .int .i64 k, .int .i64 at_, .int .i64 sz, .int .i64 tu, .int .i64 tg, .int .i64 pl] 26 (0, 0)) → ∀ q ∈ kindL k at_ sz tu, V.cell? ⟨w.heap.size, q.o, none⟩ = some (.int .i64 q.v)) := Lib.hid (by
  intro V hV q hq
  obtain ⟨a0, a1, a2, a3, a4, a5, a6⟩ := cells7 hV
  rcases b6 with rfl | rfl | rfl
  · simp [kindL] at hq
    rcases hq with rfl | rfl
    · exact a2
    · exact a4
  · simp [kindL] at hq
    rcases hq with rfl | rfl | rfl
    · exact a2
    · exact a3
    · exact a4
  · simp [kindL] at hq
    subst hq
    exact a2)
 rw [hA] at HOK
 rw [hd] at HTG
 have HB1S := Lib.hid b1
 have HTGB : Hid ((0 ≤ tg ∧ tg ≤ 1598) ∧ (0 ≤ pl ∧ pl ≤ 65535)) := Lib.hid (by omega)
 clear hA hd b1 b2 b3 b4 b5 b6 hT hs ht hp
 generalize kindL k at_ sz tu = L at *
 unfold accV at HOK HTG ⊢
 obtain ⟨a0, a1, a2, a3, a4, a5, a6⟩ := cells7 R0.out
 go_enter Tryd.func7, Tryd.ntmps7
 go_wp2_with fail
 clear a0 a1 a2 a3 a4 a5 a6
 generalize w.alloc (.cells #[.string nm, .int .i64 k, .int .i64 at_, .int .i64 sz, .int .i64 tu, .int .i64 tg, .int .i64 pl] 26) = W at *
 refine (HOK.out _).mono ?_
 rintro e w1 ⟨rfl, hb1⟩
 have R1 := Lib.hid (kept7 R0.out hb1)
 have HB1 := Lib.hid (HB0.out.trans (hb1.mono HB0.out.size))
 clear hb1
 go_wp2_with fail
 refine (HKP.out _ R1.out).mono ?_
 intro e w2 hq2
 obtain ⟨rfl, ho2, hb2⟩ := parts_own (by omega) hq2
 have R2 := Lib.hid (kept7 R1.out hb2)
 have HB2 := Lib.hid (HB1.out.trans (hb2.mono HB1.out.size))
 have HO2 := Lib.hid ho2
 have HS1 := Lib.hid hb2.size
 clear hb2 ho2 hq2
 obtain ⟨a0, a1, a2, a3, a4, a5, a6⟩ := cells7 R2.out
 go_wp2_with fail
 clear a0 a1 a2 a3 a4 a5 a6
 refine (HTG.out _).mono ?_
 rintro e w3 ⟨rfl, hb3⟩
 have R3 := Lib.hid (kept7 R2.out hb3)
 have HB3 := Lib.hid (HB2.out.trans (hb3.mono HB2.out.size))
 have HO3 := Lib.hid (own_belowP HO2.out hb3)
 have HS3 := Lib.hid (Nat.le_trans HS1.out hb3.size)
 clear hb3
 obtain ⟨i0, hi, hz0, hz1, hz2⟩ := info_parts infoLine
 go_wp2_with fail
 refine (tagParts_a w.heap.size tg pl w3).mono ?_
 intro e w4 hq4
 obtain ⟨rfl, ho4, hb4⟩ := parts_own (by simp) hq4
 have R4 := Lib.hid (kept7 R3.out hb4)
 have HB4 := Lib.hid (HB3.out.trans (hb4.mono HB3.out.size))
 have HO4 := Lib.hid (own_belowP HO3.out hb4)
 have HS4 := Lib.hid (Nat.le_trans HS3.out hb4.size)
 have HN4 := Lib.hid (fun j z (h : (ptC w.heap.size [⟨wIf, 5, tg⟩, ⟨wTells, 6, pl⟩])[j]? = some z) => ho4.cells (g := w3.heap.size) rfl j z h)
 clear hb4 ho4 hq4
 obtain ⟨LL, hLL⟩ : ∃ LL : List Pt, LL = L ++ [⟨wIf, 5, tg⟩, ⟨wTells, 6, pl⟩] := ⟨_, rfl⟩
 have hkl2 : LL.length ≤ 5 ∧ 0 < LL.length := by rw [hLL]; simp; omega
 have HLE := Lib.hid hLL
 rw [← hLL] at HX
 clear hLL
 have hlw := row_lt R1.out
 go_wp2_with (at_builtin; refine wpList_append_own _ rfl (.tmp 13) (.tmp 14) 30 rfl w1.heap.size lineT i0 _ 2 24 Tryd.underlying30 hi hz0 hz1 hz2 rfl (by decide) _ L.length _ rfl HO4.out ⟨w3.heap.size, 0, none⟩ 2 2 (ptC w.heap.size [⟨wIf, 5, tg⟩, ⟨wTells, 6, pl⟩]) rfl rfl HN4.out (by simp [ptC, Value.oneCell']) (by unfold maxLen; omega) (by omega) HS4.out ?_; intro v5 w5 hown5 hgrow5 hne5; have hg5 : w4.grownBy w5 (some w1.heap.size) := hgrow5; have hb5 : Below w.heap.size w w5 := HB4.out.trans ((Below.refl w.heap.size w4).grown hg5 HB4.out.size (fun k hk => (by injection hk with hk; omega))); have R5 := Lib.hid ((hg5.block w.heap.size (row_lt R4.out) (fun e => (by injection e with e; omega))).trans R4.out); obtain ⟨x, cap, hsl, hpts⟩ := pts_of_own (L := LL) (by rw [HLE.out, ptC_app, List.length_append]; exact hown5) hkl2.2; subst hsl; have VP := Lib.hid hpts; have HBV := Lib.hid hb5; clear hown5 hgrow5 hne5 hg5 hb5 hpts; obtain ⟨a0, a1, a2, a3, a4, a5, a6⟩ := cells7 R5.out)
 have VB := R5
 have HLB : Hid (∀ q ∈ LL, PtB q) := Lib.hid (by
  intro q hq
  rw [HLE.out] at hq
  rcases List.mem_append.1 hq with hq | hq
  · exact HLB0.out q hq
  · have hb := HTGB.out
    simp at hq
    rcases hq with rfl | rfl
    · exact ⟨by dsimp only; decide, by dsimp only; omega⟩
    · exact ⟨by dsimp only; decide, by dsimp only; omega⟩)
 have HCV : Hid (∀ V : World, V.heap[w.heap.size]? = some (.cells #[.string nm, .int .i64 k, .int .i64 at_, .int .i64 sz, .int .i64 tu, .int .i64 tg, .int .i64 pl] 26 (0, 0)) → ∀ q ∈ LL, V.cell? ⟨w.heap.size, q.o, none⟩ = some (.int .i64 q.v)) := Lib.hid (by
  intro V hV q hq
  rw [HLE.out] at hq
  rcases List.mem_append.1 hq with hq | hq
  · exact HCV0.out V hV q hq
  · obtain ⟨a0, a1, a2, a3, a4, a5, a6⟩ := cells7 hV
    simp at hq
    rcases hq with rfl | rfl
    · exact a5
    · exact a6)
 have HLL : Hid (nm.size + 33 * LL.length ≤ 400) := Lib.hid (by have := HB1S.out; omega)
 clear HLB0 HCV0 HKP HO2 HO3 HO4 HN4 hkl
 clear HLE
 clear a0 a1 a2 a3 a4 a5 a6
 go_loopw [4, 20] (fun t i wr => ∃ (j : Nat) (u : ByteArray), i = .int .i64 j ∧ t = .string u ∧ j ≤ LL.length ∧ Hid (u = joinP nm (LL.take j)) ∧ Hid (Below w5.heap.size w5 wr)) (fun _ i _ => LL.length - (intOf i).toNat)
 case atStart => exact ⟨0, nm, rfl, rfl, by omega, Lib.hid rfl, Lib.hid (Below.refl _ _)⟩
 case round =>
  obtain ⟨j, u, rfl, rfl, hj, HU, HB⟩ := hrel
  have HSZ := Lib.hid HB.out.size
  by_cases hlt : j < LL.length
  · have hus : u.size ≤ 400 := by
     have h1 := join_size nm (LL.take j) (fun q hq => HLB.out q (List.mem_of_mem_take hq))
     rw [← HU.out, List.length_take, Nat.min_eq_left hj] at h1
     have h2 := HLL.out
     omega
    obtain ⟨c0, c1⟩ := (VP.out.below HB.out).2 j hlt
    have hqb := HLB.out _ (List.getElem_mem hlt)
    have hcv := HCV.out _ (below_box HB.out VB.out) _ (List.getElem_mem hlt)
    have HTK : Hid (joinP nm (LL.take (j + 1)) = u ++ ((LL[j]).s ++ decB (LL[j]).v)) := Lib.hid (by rw [HU.out, List.take_succ_eq_append_getElem hlt, join_snoc])
    generalize LL[j] = q at *
    obtain ⟨qs, qo, qv⟩ := q
    dsimp only at c0 c1 hqb hcv HTK
    have hqs := hqb.1
    have hD := decB_size (t := qv) hqb.2
    have HIT : Hid (∀ W : World, Below (wr.alloc (.cells #[.string qs, .pointer (some ⟨w.heap.size, qo, none⟩)] lineT)).heap.size (wr.alloc (.cells #[.string qs, .pointer (some ⟨w.heap.size, qo, none⟩)] lineT)) W → Calls Tryd.prog 14 #[.int .i64 qv] W fun e w' => e = .returned (.string (decB qv)) ∧ Below W.heap.size W w') := Lib.hid fun W hW => by
     have hw1 : Below wr.heap.size wr W := ((Below.refl wr.heap.size wr).alloc (Nat.le_refl _) _).trans (hW.mono (by simp))
     have hw2 : Below w.heap.size w wr := HBV.out.trans (HB.out.mono HBV.out.size)
     exact itoa_a qv (by have h9 := hqb.2; dsimp only at h9; omega) W (HTB.out _ (hw2.trans (hw1.mono hw2.size)))
    generalize decB qv = D at *
    have GA := Lib.hid (heap_alloc_new wr (.cells #[.string qs, .pointer (some ⟨w.heap.size, qo, none⟩)] lineT))
    have hba : Below wr.heap.size wr (wr.alloc (.cells #[.string qs, .pointer (some ⟨w.heap.size, qo, none⟩)] lineT)) := (Below.refl _ _).alloc (Nat.le_refl _) _
    have hlw : w.heap.size < wr.heap.size := by have := row_lt VB.out; have := HSZ.out; omega
    have G1 := Lib.hid ((hba.cell (p := ⟨w.heap.size, qo, none⟩) hlw).trans hcv)
    have GL : Hid (w.heap.size < (wr.alloc (.cells #[.string qs, .pointer (some ⟨w.heap.size, qo, none⟩)] lineT)).heap.size) := Lib.hid (by simp; omega)
    have HBA := Lib.hid (HB.out.trans (hba.mono HSZ.out))
    clear hcv hqb hlw hba
    go_wp2_with fail
    clear c0 c1
    obtain ⟨gp, hgp⟩ : ∃ gp, gp = wr.heap.size := ⟨_, rfl⟩
    rw [← hgp] at GA ⊢
    clear hgp
    generalize wr.alloc (.cells #[.string qs, .pointer (some ⟨w.heap.size, qo, none⟩)] lineT) = W4 at *
    have G0 := GA
    have HDR : Hid (Below W4.heap.size W4 W4.drew) := Lib.hid ⟨rfl, rfl, rfl, Nat.le_refl _, fun _ _ => rfl⟩
    refine wp_region_held_drew (S := (fun V => V.heap[gp]? = some (.cells #[.string qs, .pointer (some ⟨w.heap.size, qo, none⟩)] lineT (0, 0)) ∧ V.cell? ⟨w.heap.size, qo, none⟩ = some (.int .i64 qv))) (by kernel_rfl) ?_ (fun hH0 => ?_)
    · exact ⟨G0.out, G1.out⟩
    refine wpAnyH_take (i := 0) (v := ?_) rfl (by kernel_rfl) (by kernel_rfl) (by kernel_rfl) (fun _ _ _ h => h) (Or.inl ⟨by rfl, ?_⟩) (by assumption) ?_
    rotate_left
    · intro w hSw
      (try dsimp only at hSw)
      obtain ⟨s0, s1⟩ := cellsP hSw.1
      have s2 := hSw.2
      go_simp
      try with_reducible rfl
    try simp only [List.getElem_toArray, List.getElem_cons_succ, List.getElem_cons_zero, Act.put, List.setIfInBounds_toArray, List.set_cons_zero, List.set_cons_succ]
    refine wpAnyH_take (i := 1) (v := ?_) rfl (by kernel_rfl) (by kernel_rfl) (by kernel_rfl) (fun _ _ _ h => h) (Or.inl ⟨by rfl, ?_⟩) (by assumption) ?_
    rotate_left
    · intro w hSw
      (try dsimp only at hSw)
      obtain ⟨s0, s1⟩ := cellsP hSw.1
      have s2 := hSw.2
      go_simp
      try with_reducible rfl
    try simp only [List.getElem_toArray, List.getElem_cons_succ, List.getElem_cons_zero, Act.put, List.setIfInBounds_toArray, List.set_cons_zero, List.set_cons_succ]
    refine wpAnyH_take (i := 2) (v := ?_) rfl (by kernel_rfl) (by kernel_rfl) (by kernel_rfl) (fun _ _ _ h => h) (Or.inl ⟨by rfl, ?_⟩) (by assumption) ?_
    rotate_left
    · intro w hSw
      (try dsimp only at hSw)
      obtain ⟨s0, s1⟩ := cellsP hSw.1
      have s2 := hSw.2
      go_simp
      try with_reducible rfl
    try simp only [List.getElem_toArray, List.getElem_cons_succ, List.getElem_cons_zero, Act.put, List.setIfInBounds_toArray, List.set_cons_zero, List.set_cons_succ]
    refine wpAnyH_take (i := 3) (v := ?_) rfl (by kernel_rfl) (by kernel_rfl) (by kernel_rfl) (fun _ _ _ h => h) (Or.inl ⟨by rfl, ?_⟩) (by assumption) ?_
    rotate_left
    · intro w hSw
      (try dsimp only at hSw)
      obtain ⟨s0, s1⟩ := cellsP hSw.1
      have s2 := hSw.2
      go_simp
      try with_reducible rfl
    try simp only [List.getElem_toArray, List.getElem_cons_succ, List.getElem_cons_zero, Act.put, List.setIfInBounds_toArray, List.set_cons_zero, List.set_cons_succ]
    refine wpAnyH_take (i := 4) (v := ?_) rfl (by kernel_rfl) (by kernel_rfl) (by kernel_rfl) (fun _ _ _ h => h) (Or.inl ⟨by rfl, ?_⟩) (by assumption) ?_
    rotate_left
    · intro w hSw
      (try dsimp only at hSw)
      obtain ⟨s0, s1⟩ := cellsP hSw.1
      have s2 := hSw.2
      go_simp
      try with_reducible rfl
    try simp only [List.getElem_toArray, List.getElem_cons_succ, List.getElem_cons_zero, Act.put, List.setIfInBounds_toArray, List.set_cons_zero, List.set_cons_succ]
    refine wpAnyH_take (i := 5) (v := ?_) rfl (by kernel_rfl) (by kernel_rfl) (by kernel_rfl) (fun _ _ _ h => h) (Or.inl ⟨by rfl, ?_⟩) (by assumption) ?_
    rotate_left
    · intro w hSw
      (try dsimp only at hSw)
      obtain ⟨s0, s1⟩ := cellsP hSw.1
      have s2 := hSw.2
      go_simp
      try with_reducible rfl
    try simp only [List.getElem_toArray, List.getElem_cons_succ, List.getElem_cons_zero, Act.put, List.setIfInBounds_toArray, List.set_cons_zero, List.set_cons_succ]
    refine wpAnyH_take (i := 6) (v := ?_) rfl (by kernel_rfl) (by kernel_rfl) (by kernel_rfl) (fun _ _ _ h => h) (Or.inl ⟨by rfl, ?_⟩) (by assumption) ?_
    rotate_left
    · intro w hSw
      (try dsimp only at hSw)
      obtain ⟨s0, s1⟩ := cellsP hSw.1
      have s2 := hSw.2
      go_simp
      try with_reducible rfl
    try simp only [List.getElem_toArray, List.getElem_cons_succ, List.getElem_cons_zero, Act.put, List.setIfInBounds_toArray, List.set_cons_zero, List.set_cons_succ]
    refine wpAnyH_ready (rs := [7]) (by kernel_rfl) (by simp) ?_
    refine AllReadyH.cons rfl (fun K hK => ?_) AllReadyH.nil
    go_simp
    go_at_call 14
    refine (HIT.out _ HDR.out).mono ?_
    rintro e w3 ⟨rfl, hb3⟩
    have HC3 := Lib.hid (HDR.out.trans (hb3.mono HDR.out.size))
    have v0 := (HC3.out.block _ (row_lt G0.out)).trans G0.out
    have v1 := (HC3.out.cell (p := ⟨w.heap.size, qo, none⟩) (by have := GL.out; exact this)).trans G1.out
    clear hb3
    go_wp2_with fail
    refine hK.out _ _ ⟨v0, v1⟩ (fun hHn => ?_)
    clear hK K hH0 v0 v1
    try simp only [List.getElem_toArray, List.getElem_cons_succ, List.getElem_cons_zero, Act.put, List.setIfInBounds_toArray, List.set_cons_zero, List.set_cons_succ]
    refine wpAnyH_take (i := 8) (v := .string (qs ++ D)) rfl (by kernel_rfl) (by kernel_rfl) (by kernel_rfl) (fun _ _ _ h => h) (Or.inl ⟨by rfl, ?_⟩) (by assumption) ?_
    · intro w hSw
      go_simp
      try omega
    try simp only [List.getElem_toArray, List.getElem_cons_succ, List.getElem_cons_zero, Act.put, List.setIfInBounds_toArray, List.set_cons_zero, List.set_cons_succ]
    refine wpAnyH_take (i := 9) (v := .string (u ++ (qs ++ D))) rfl (by kernel_rfl) (by kernel_rfl) (by kernel_rfl) (fun _ _ _ h => h) (Or.inl ⟨by rfl, ?_⟩) (by assumption) ?_
    · intro w hSw
      go_simp
      try omega
    try simp only [List.getElem_toArray, List.getElem_cons_succ, List.getElem_cons_zero, Act.put, List.setIfInBounds_toArray, List.set_cons_zero, List.set_cons_succ]
    refine wpAnyH_take (i := 10) (v := ?_) rfl (by kernel_rfl) (by kernel_rfl) (by kernel_rfl) (fun _ _ _ h => h) (Or.inl ⟨by rfl, ?_⟩) (by assumption) ?_
    rotate_left
    · intro w hSw
      (try dsimp only at hSw)
      go_simp
      try with_reducible rfl
    try simp only [List.getElem_toArray, List.getElem_cons_succ, List.getElem_cons_zero, Act.put, List.setIfInBounds_toArray, List.set_cons_zero, List.set_cons_succ]
    refine wpAnyH_done (by kernel_rfl) ?_ _
    clear hHn
    go_wp2
    have HB5 := Lib.hid (HBA.out.trans (HC3.out.mono HBA.out.size))
    go_roundw
    case rel => exact ⟨j + 1, u ++ (qs ++ D), by go_num, rfl, by omega, Lib.hid HTK.out.symm, HB5⟩
    case measure => simp [intOf]; omega
  · obtain rfl : j = LL.length := by omega
    have HF : Hid (accT nm k at_ sz tu tg pl = u) := Lib.hid (by rw [HX.out, HU.out, List.take_length])
    have HBZ := Lib.hid (HBV.out.trans (HB.out.mono HBV.out.size))
    go_wp2
    go_ret
    exact ⟨by rw [HF.out]; rfl, HBZ.out⟩
theorem implAccessText_a (nm : ByteArray) (k at_ sz tu tg pl : Int) (w : World) (hs : nm.size ≤ maxLen) (ht : i64b tu) (hp : i64b pl) (hT : TabP w) :
 Calls Tryd.prog 7 #[accV nm k at_ sz tu tg pl] w fun e w' => e = .returned (.string (accT nm k at_ sz tu tg pl)) ∧ Below w.heap.size w w' := by
 cases hok : accB nm k at_ sz tu tg pl
 · have HS := Lib.hid (fun W => implAccessOk_any nm k at_ sz tu tg pl W hs ht hp)
   have HB0 := Lib.hid ((Below.refl w.heap.size w).alloc (Nat.le_refl _) (.cells #[.string nm, .int .i64 k, .int .i64 at_, .int .i64 sz, .int .i64 tu, .int .i64 tg, .int .i64 pl] 26))
   obtain ⟨a0, a1, a2, a3, a4, a5, a6⟩ := cells7 (heap_alloc_new w (.cells #[.string nm, .int .i64 k, .int .i64 at_, .int .i64 sz, .int .i64 tu, .int .i64 tg, .int .i64 pl] 26))
   have HX : Hid (accT nm k at_ sz tu tg pl = ⟨#[]⟩) := Lib.hid (by unfold accT; rw [hok]; rfl)
   rw [hok] at HS
   clear hok hT hs ht hp
   unfold accV at HS ⊢
   go_enter Tryd.func7, Tryd.ntmps7
   go_wp2_with fail
   refine (HS.out _).mono ?_
   rintro e w1 ⟨rfl, hb1⟩
   have HB1 := Lib.hid (HB0.out.trans (hb1.mono HB0.out.size))
   clear hb1 a0 a1 a2 a3 a4 a5 a6
   go_wp2
   go_ret
   exact ⟨by rw [HX.out]; rfl, HB1.out⟩
 · by_cases h0 : 0 ≤ tg
   · exact implText_t nm k at_ sz tu tg pl w hs ht hp hT hok h0
   · exact implText_n nm k at_ sz tu tg pl w hs ht hp hT hok (by omega)
end Go.Proofs.YtfnecflkahmjoaaDoor
namespace Go.Proofs.YtfnecflkahmjoaaDoor
open Go.RowKit
theorem walkExactAccessText (nm : ByteArray) (hs : nm.size ≤ maxLen) (k at_ sz tu tg pl : Int) (_ : (Lit.int .i64 k).wf = true) (_ : (Lit.int .i64 at_).wf = true) (_ : (Lit.int .i64 sz).wf = true) (wtu : (Lit.int .i64 tu).wf = true) (_ : (Lit.int .i64 tg).wf = true) (wpl : (Lit.int .i64 pl).wf = true) (w : World) (hT : TabP w) :
 Calls Tryd.prog 3 #[accV nm k at_ sz tu tg pl] w fun e w' => e = .returned (.bool true) ∧ Below w.heap.size w w' := by
 have HZ := Lib.hid (fun w => szAccess_any nm k at_ sz tu tg pl 1048576 w hs (by decide) (by decide))
 have HT := Lib.hid (toAccess_any nm k at_ sz tu tg pl)
 have HS := Lib.hid (fun w => specAccessText_a nm k at_ sz tu tg pl w hs)
 have HI := Lib.hid (fun W (hW : Below w.heap.size w W) => implAccessText_a nm k at_ sz tu tg pl W hs (wf_bd wtu) (wf_bd wpl) (hT.below hW))
 have HB0 := Lib.hid ((Below.refl w.heap.size w).alloc (Nat.le_refl _) (.cells #[.string nm, .int .i64 k, .int .i64 at_, .int .i64 sz, .int .i64 tu, .int .i64 tg, .int .i64 pl] 23))
 clear wtu wpl hT
 by_cases hlong : (1048576 : Int) - nm.size < 0
 · have HL : Hid ((if (1048576 : Int) - (nm.size : Int) < 0 then -1 else (1048576 : Int) - (nm.size : Int)) = -1) := Lib.hid (by rw [if_pos hlong])
   clear hlong
   unfold accV at HZ ⊢
   go_enter Tryd.func3, Tryd.ntmps3
   go_wp2_with (first | (go_at_call 4; refine (HZ.out _).mono ?_; rintro e w1 ⟨rfl, hb1⟩; rw [HL.out]))
   go_ret
   exact ⟨rfl, HB0.out.trans (hb1.mono (by simp))⟩
 · obtain ⟨z, hz⟩ : ∃ z : Int, z = 1048576 - nm.size := ⟨_, rfl⟩
   have HL : Hid ((if (1048576 : Int) - (nm.size : Int) < 0 then -1 else (1048576 : Int) - (nm.size : Int)) = z) := Lib.hid (by rw [if_neg hlong, hz])
   have hz0 : ¬ z < 0 := by omega
   clear hlong hz
   generalize accT nm k at_ sz tu tg pl = r at HS HI
   unfold accV at HZ HT HS HI ⊢
   go_enter Tryd.func3, Tryd.ntmps3
   go_wp2_with (first | (go_at_call 4; refine (HZ.out _).mono ?_; rintro e w1 ⟨rfl, hb1⟩; rw [HL.out]; have hk1 := kept7 (heap_alloc_new w _) hb1; have HK1 := Lib.hid hk1; have HB1 := Lib.hid (HB0.out.trans (hb1.mono HB0.out.size)); obtain ⟨c0, c1, c2, c3, c4, c5, c6⟩ := cells7 hk1; clear hk1) | (go_at_call 6; refine (HT.out w3).mono ?_; rintro e w4 ⟨rfl, hb4⟩; have HB4 := Lib.hid (HB3.out.trans (hb4.mono HB3.out.size))) | (go_at_call 6; refine (HT.out _).mono ?_; rintro e w2 ⟨rfl, hb2⟩; have HK2 := Lib.hid (kept7 HK1.out hb2); have HB2 := Lib.hid (HB1.out.trans (hb2.mono HB1.out.size))) | (go_at_call 5; refine (HS.out _).mono ?_; rintro e w3 ⟨rfl, hb3⟩; have hk3 := kept7 HK2.out hb3; have HB3 := Lib.hid (HB2.out.trans (hb3.mono HB2.out.size)); obtain ⟨d0, d1, d2, d3, d4, d5, d6⟩ := cells7 hk3; clear hk3) | (go_at_call 7; refine (HI.out _ HB4.out).mono ?_; rintro e w5 ⟨rfl, hb5⟩))
   go_ret
   exact ⟨rfl, HB4.out.trans (hb5.mono HB4.out.size)⟩
theorem tabQ_eq : (Rows.laid_internal_strconv_uint64pow10 (H := Unit)) = Lib.tabData .u64 Lib.pow10Tab := by rfl
theorem tab_of {W : World} (h : laidMetH Tryd.prog [("math/bits.deBruijn32tab", Rows.laid_math_bits_deBruijn32tab), ("math/bits.deBruijn64tab", Rows.laid_math_bits_deBruijn64tab), ("internal/strconv.uint64pow10", Rows.laid_internal_strconv_uint64pow10)] W) : TabP W := by
 rw [MakeChecks.laidMetH_plain _ _ _ (by kernel_rfl)] at h
 have h1 := laidMet.tail (laidMet.tail h)
 rw [tabQ_eq] at h1
 exact Lib.tabIs_of_head (g := 0) (t := 53) (e := 45) (n := 20) (by kernel_rfl) (by kernel_rfl) Tryd.underlying53 Tryd.underlying45 (by kernel_rfl) (by kernel_rfl) h1
open Go.Joins Go.ChangeShapes Go.WideShapes Go.RowKit Go.Deep
section
variable {H : Type} {enc : TypeId × Value → H} {P : Program} {w : World} {base : Nat} {spare : Nat → Bool} {held : Bool}
theorem open_acc_gen {r : Reach} {b0 : Nat} {t : TypeId} {f0 f1 f2 f3 f4 f5 f6 : Field} {v : Value} {d : DataW H} {p : List MemPlace} (hs : P.underlying t = some (.struct #[f0, f1, f2, f3, f4, f5, f6])) (hone : oneCellFields P #[f0, f1, f2, f3, f4, f5, f6] = true) (hC : P.cellsOf t = 7)
 (t0 : P.underlying f0.type = some .string) (t1 : P.underlying f1.type = some (.int .i64)) (t2 : P.underlying f2.type = some (.int .i64)) (t3 : P.underlying f3.type = some (.int .i64)) (t4 : P.underlying f4.type = some (.int .i64)) (t5 : P.underlying f5.type = some (.int .i64)) (t6 : P.underlying f6.type = some (.int .i64))
 (hv : Value.okWide P w r b0 t v) (h : DataW.Trod enc P w base spare held t v d p) :
 ∃ (n0 : ByteArray) (n1 : Int) (n2 : Int) (n3 : Int) (n4 : Int) (n5 : Int) (n6 : Int), v = .agg #[.string n0, .int .i64 n1, .int .i64 n2, .int .i64 n3, .int .i64 n4, .int .i64 n5, .int .i64 n6] ∧ n0.size ≤ maxLen ∧ (Lit.int .i64 n1).wf = true ∧ (Lit.int .i64 n2).wf = true ∧ (Lit.int .i64 n3).wf = true ∧ (Lit.int .i64 n4).wf = true ∧ (Lit.int .i64 n5).wf = true ∧ (Lit.int .i64 n6).wf = true := by
 obtain ⟨cs, rfl, hsz⟩ := okWide_struct hs hv
 obtain ⟨l⟩ := cs
 match l, hsz.trans hC with
 | [c0, c1, c2, c3, c4, c5, c6], _ =>
  obtain ⟨fuel, hf⟩ := h
  obtain ⟨xs, n, _, _, _, hlen, hg⟩ := DataW.trod_struct hs hf
  match xs, hlen with
  | [y0, y1, y2, y3, y4, y5, y6], _ =>
   have g0 := hg 0 f0 rfl
   have g1 := hg 1 f1 rfl
   have g2 := hg 2 f2 rfl
   have g3 := hg 3 f3 rfl
   have g4 := hg 4 f4 rfl
   have g5 := hg 5 f5 rfl
   have g6 := hg 6 f6 rfl
   rw [(hone_of hone 0 f0 rfl).1, (hone_of hone 0 f0 rfl).2] at g0
   rw [(hone_of hone 1 f1 rfl).1, (hone_of hone 1 f1 rfl).2] at g1
   rw [(hone_of hone 2 f2 rfl).1, (hone_of hone 2 f2 rfl).2] at g2
   rw [(hone_of hone 3 f3 rfl).1, (hone_of hone 3 f3 rfl).2] at g3
   rw [(hone_of hone 4 f4 rfl).1, (hone_of hone 4 f4 rfl).2] at g4
   rw [(hone_of hone 5 f5 rfl).1, (hone_of hone 5 f5 rfl).2] at g5
   rw [(hone_of hone 6 f6 rfl).1, (hone_of hone 6 f6 rfl).2] at g6
   simp [Value.cells] at g0 g1 g2 g3 g4 g5 g6
   obtain ⟨z0, e0, _, w0⟩ := DataW.trod_string t0 g0
   obtain ⟨z1, e1, _, w1⟩ := DataW.trod_int t1 g1
   obtain ⟨z2, e2, _, w2⟩ := DataW.trod_int t2 g2
   obtain ⟨z3, e3, _, w3⟩ := DataW.trod_int t3 g3
   obtain ⟨z4, e4, _, w4⟩ := DataW.trod_int t4 g4
   obtain ⟨z5, e5, _, w5⟩ := DataW.trod_int t5 g5
   obtain ⟨z6, e6, _, w6⟩ := DataW.trod_int t6 g6
   simp only [List.cons.injEq, and_true] at e0 e1 e2 e3 e4 e5 e6
   subst e0 e1 e2 e3 e4 e5 e6
   exact ⟨z0, z1, z2, z3, z4, z5, z6, rfl, w0, w1, w2, w3, w4, w5, w6⟩
theorem open_acc {r : Reach} {b0 : Nat} {v : Value} {d : DataW H} {p : List MemPlace} (hv : Value.okWide Tryd.prog w r b0 23 v) (h : DataW.Trod enc Tryd.prog w base spare held 23 v d p) :
 ∃ (n0 : ByteArray) (n1 : Int) (n2 : Int) (n3 : Int) (n4 : Int) (n5 : Int) (n6 : Int), v = .agg #[.string n0, .int .i64 n1, .int .i64 n2, .int .i64 n3, .int .i64 n4, .int .i64 n5, .int .i64 n6] ∧ n0.size ≤ maxLen ∧ (Lit.int .i64 n1).wf = true ∧ (Lit.int .i64 n2).wf = true ∧ (Lit.int .i64 n3).wf = true ∧ (Lit.int .i64 n4).wf = true ∧ (Lit.int .i64 n5).wf = true ∧ (Lit.int .i64 n6).wf = true :=
 open_acc_gen Tryd.underlying23 (by kernel_rfl) (by kernel_rfl) Tryd.underlying9 Tryd.underlying3 Tryd.underlying3 Tryd.underlying3 Tryd.underlying3 Tryd.underlying3 Tryd.underlying3 hv h
end
end Go.Proofs.YtfnecflkahmjoaaDoor
