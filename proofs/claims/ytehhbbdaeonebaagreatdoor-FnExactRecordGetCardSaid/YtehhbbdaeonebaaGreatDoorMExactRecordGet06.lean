/- Texts of the proof of the law FnExactRecordGet, side by side: part 6. -/
import Derived.Test.YtehhbbdaeonebaaGreatDoorMExactRecordGet05
set_option maxHeartbeats 8000000
set_option maxRecDepth 100000
namespace Go.Proofs.YtehhbbdaeonebaaGreatDoor
open Go.RowKit Go.Deep
def MkS (m : Nat) : Prop := ∀ (A : Option Addr) (c : Nat) (l : List Nd) (bs : List Nat) (w : World) (q : Nat), OwS w m A c l bs → bs.Nodup → 1 ≤ q → q + 4 * sizL l ≤ 100000000 →
 Calls Tryz.prog 44 #[.slice A l.length c, .int .i64 (q : Int)] w fun e w' => ∃ (l' : List Nd) (q' : Nat), e = .returned (.int .i64 (q' : Int)) ∧ q ≤ q' ∧ q' ≤ q + 4 * sizL l ∧ l'.length = l.length ∧ OwS w' m A c l' bs ∧ HelS m l' q q' ∧ OnlyIn bs w w'
def MkR (l : List Nd) (g c j : Nat) (bs : List Nat) (q k qq : Nat) (wr : World) : Prop :=
 ∃ pre post : List NB, pre.length = k ∧ post.map (·.1) = l.drop k ∧ RowG wr g c (pre ++ post) j ∧ bs = g :: blkB (pre ++ post) ∧ HelS (j + 1) (pre.map (·.1)) q qq ∧ q ≤ qq ∧ qq ≤ q + 4 * sizL (l.take k)
theorem cellE_ne {a b : Nd × Hd} (e : Nat) (h0 : e ≠ 0 → a.1.kind = b.1.kind) (h1 : e ≠ 1 → a.1.data = b.1.data) (h2 : a.1.ptrs = b.1.ptrs) (h3 : e ≠ 3 → a.1.size = b.1.size) (h4 : e ≠ 4 → a.1.count = b.1.count) (h5 : a.1.items = b.1.items) (hh : a.2 = b.2) : ∀ f, f < 6 → f ≠ e → cellE a f = cellE b f := by
 obtain ⟨a, x⟩ := a
 obtain ⟨b, y⟩ := b
 dsimp only at h0 h1 h2 h3 h4 h5 hh
 subst hh
 intro f hf hne
 match f, hf with
 | 0, _ => show Value.int .i64 a.kind = .int .i64 b.kind; rw [h0 (fun h => hne h.symm)]
 | 1, _ => show Value.string a.data = .string b.data; rw [h1 (fun h => hne h.symm)]
 | 2, _ => show Value.slice x.A a.ptrs.length x.a = .slice x.A b.ptrs.length x.a; rw [h2]
 | 3, _ => show Value.int .i64 a.size = .int .i64 b.size; rw [h3 (fun h => hne h.symm)]
 | 4, _ => show Value.int .i64 a.count = .int .i64 b.count; rw [h4 (fun h => hne h.symm)]
 | 5, _ => show Value.slice x.B a.items.length x.b = .slice x.B b.items.length x.b; rw [h5]
theorem RowG.dsize {w : World} {M g c : Nat} {pre post : List NB} {r : NB} (h : RowG w g c (pre ++ r :: post) M) : r.1.data.size ≤ maxLen := by
 obtain ⟨_, _, _, _, _, _, h6, _⟩ := h
 exact (h6 r (List.mem_append_right _ List.mem_cons_self)).1
theorem RowG.capl {w : World} {M g c : Nat} {q : List NB} (h : RowG w g c q M) : q.length ≤ c := by
 obtain ⟨_, _, _, h3, _⟩ := h
 exact h3
theorem mkS_of (m : Nat) (IH : ∀ j, m = j + 1 → MkS j) : MkS m := by
 intro A c l bs w q ho hnd h1 h2
 have hlm : l.length ≤ 100000000 := by have := sizL_len l; omega
 by_cases hl : l = []
 · subst hl
   have HO := Lib.hid ho
   clear ho hnd
   go_enter Tryz.func44, Tryz.ntmps44
   go_wp2_with fail
   refine wp_loop_rounds 1 ?_
   rw [rounds_succ]
   go_wp2
   go_ret
   exact ⟨[], q, rfl, Nat.le_refl _, by omega, rfl, HO.out, (helS_nil _ _ _).2 rfl, OnlyIn.refl _ _⟩
 rcases own_cap ho with ⟨_, h, _⟩ | ⟨⟨g, rfl⟩, hlc⟩
 · exact absurd h hl
 obtain ⟨j, rfl⟩ : ∃ j, m = j + 1 := by
  cases m with
  | zero => exact absurd ho.1 hl
  | succ j => exact ⟨j, rfl⟩
 have HIH := Lib.hid (IH j rfl)
 obtain ⟨q0, hq0, hb0, hg0⟩ := ho.rowG hnd
 have HR0 : Hid (MkR l g c j bs q 0 q w) := Lib.hid ⟨[], q0, rfl, hq0, hg0, hb0, (helS_nil _ _ _).2 rfl, Nat.le_refl _, by omega⟩
 have HND := Lib.hid hnd
 clear ho hnd IH hq0 hb0 hg0 hl
 go_enter Tryz.func44, Tryz.ntmps44
 go_wp2_with fail
 go_loopw [1, 5] (fun u i wr => ∃ (k qq : Nat), u = .int .i64 (qq : Int) ∧ i = .int .i64 k ∧ k ≤ l.length ∧ Hid (MkR l g c j bs q k qq wr) ∧ Hid (OnlyIn bs w wr)) (fun _ i _ => l.length - (intOf i).toNat)
 case atStart => exact ⟨0, q, rfl, rfl, by omega, HR0, Lib.hid (OnlyIn.refl _ _)⟩
 case round =>
  clear HR0
  obtain ⟨k, qq, rfl, rfl, hk, HR, HOI⟩ := hrel
  obtain ⟨pre, post, hpk, hpost, hg, hbs, hhel, hqa, hqb⟩ := HR.out
  by_cases hlt : k < l.length
  · subst hpk
    have hdrop : l.drop pre.length = l[pre.length] :: l.drop (pre.length + 1) := List.drop_eq_getElem_cons hlt
    rw [hdrop] at hpost
    cases post with
    | nil =>
     simp at hpost
     omega
    | cons r t =>
     rw [List.map_cons] at hpost
     injection hpost with e1 e2
     obtain ⟨y, hd, bsy⟩ := r
     dsimp only at e1
     have hsz : sizL (l.take (pre.length + 1)) = sizL (l.take pre.length) + (1 + sizN y) := by rw [List.take_succ_eq_append_getElem hlt, sizL_app, sizL, sizL_nil, ← e1]; omega
     have htl := sizL_take l (pre.length + 1)
     have hyz := sizN_eq y
     clear hdrop e1
     have hcap := hg.capl
     rw [List.length_append, List.length_cons] at hcap
     obtain ⟨d0, d1, d2, d3, d4, d5, df⟩ := hg.cells
     have hd0 := df (pre.length * 6)
     have hg1 : RowG (wr.setCell ⟨g, pre.length * 6, none⟩ (.int .i64 (qq : Int))) g c (pre ++ ((.mk (qq : Int) y.data y.ptrs y.size y.count y.items : Nd), hd, bsy) :: t) j := hg.set (n' := .mk (qq : Int) y.data y.ptrs y.size y.count y.items) 0 (.int .i64 (qq : Int)) (by decide) rfl (cellE_ne 0 (fun h => absurd rfl h) (fun _ => rfl) rfl (fun _ => rfl) (fun _ => rfl) rfl rfl) rfl rfl hg.dsize
     have hgb : g ∈ bs := by rw [hbs]; exact List.mem_cons_self
     have ho1 := HOI.out.trans (OnlyIn.setCell (p := ⟨g, pre.length * 6, none⟩) hgb (.int .i64 (qq : Int)))
     have hw1 : IntKind.i64.wrap ((qq : Int) + 1) = (qq : Int) + 1 := by rw [IntKind.wrap_i64]; omega
     have hw2 : IntKind.i64.wrap ((qq : Int) + 1 + 1) = (qq : Int) + 1 + 1 := by rw [IntKind.wrap_i64]; omega
     have HG1 := Lib.hid hg1
     have HO1 := Lib.hid ho1
     have HE2 := Lib.hid (And.intro e2 (And.intro hhel hbs))
     clear hg hg1 ho1 df e2 hhel hbs HR HOI d1 d2 d3 d4 d5
     have d0' : wr.cell? ⟨g, pre.length * 6, none⟩ = some (.int .i64 y.kind) := d0
     clear d0
     go_wp2_with fail
     generalize wr.setCell ⟨g, pre.length * 6, none⟩ (.int .i64 (qq : Int)) = W1 at *
     clear d0' hd0
     refine (markText_any (qq + 1) _ (by omega) (by omega)).mono ?_
     rintro e W2 ⟨rfl, hb2⟩
     have hmb : (markB (qq + 1)).size ≤ maxLen := by have := markB_size (qq + 1); unfold maxLen; omega
     obtain ⟨mk, hmk⟩ : ∃ mk, mk = markB (qq + 1) := ⟨_, rfl⟩
     rw [← hmk] at hmb
     rw [← hmk]
     have HMK := Lib.hid hmk
     have hg2 := HG1.out.below hb2
     have ho2 := HO1.out.trans (OnlyIn.of_below hb2)
     obtain ⟨d0, d1, d2, d3, d4, d5, df⟩ := hg2.cells
     have hd1 := df (pre.length * 6 + 1)
     have hg3 : RowG (W2.setCell ⟨g, pre.length * 6 + 1, none⟩ (.string mk)) g c (pre ++ ((.mk (qq : Int) mk y.ptrs y.size y.count y.items : Nd), hd, bsy) :: t) j := hg2.set (n' := .mk (qq : Int) mk y.ptrs y.size y.count y.items) 1 (.string mk) (by decide) rfl (cellE_ne 1 (fun _ => rfl) (fun h => absurd rfl h) rfl (fun _ => rfl) (fun _ => rfl) rfl rfl) rfl rfl hmb
     have ho3 := ho2.trans (OnlyIn.setCell (p := ⟨g, pre.length * 6 + 1, none⟩) hgb (.string mk))
     obtain ⟨f0, f1, f2, f3, f4, f5, ff⟩ := hg3.cells
     have f2' : (W2.setCell ⟨g, pre.length * 6 + 1, none⟩ (.string mk)).cell? ⟨g, pre.length * 6 + 2, none⟩ = some (.slice hd.A y.ptrs.length hd.a) := f2
     have HG3 := Lib.hid hg3
     have HO3 := Lib.hid ho3
     obtain ⟨b1, b2, hbb, ls1, ls2, nd1, nd2, ng1, ng2⟩ := hg3.lists
     have HC1 := Lib.hid (HIH.out hd.A hd.a y.ptrs b1 _ (qq + 2) ls1 nd1 (by omega) (by omega))
     have HL2 := Lib.hid (And.intro ls2 (And.intro nd1 nd2))
     have HBB := Lib.hid hbb
     have d1' : W2.cell? ⟨g, pre.length * 6 + 1, none⟩ = some (.string y.data) := d1
     clear hg2 ho2 hg3 ho3 hb2 HG1 HO1 d0 d1 d2 d3 d4 d5 df f0 f1 f2 f3 f4 f5 ff ls1 ls2 nd1 nd2 ng1 ng2 hbb hmk hmb
     go_wp2_with fail
     generalize W2.setCell ⟨g, pre.length * 6 + 1, none⟩ (.string mk) = W3 at *
     clear d1' hd1 f2'
     refine HC1.out.mono ?_
     rintro e W4 ⟨p', q1, rfl, hq1a, hq1b, hlp, hop, hhp, hoi⟩
     have hdis := (List.nodup_append.1 (show (b1 ++ b2).Nodup by
      have h := HND.out
      rw [HE2.out.2.2, blkB_app, blkB_cons] at h
      have h' := (List.nodup_append.1 (List.nodup_append.1 (List.nodup_cons.1 h).2).2.1).1
      rw [← HBB.out]
      exact h')).2.2
     have hi4 := HL2.out.1.frame (w' := W4) _ _ _ _ _ (fun b hb => hoi.block b (HL2.out.1.lt _ _ _ _ _ b hb).1 (fun hm => hdis b hm b hb rfl))
     have hg4 : RowG W4 g c (pre ++ ((.mk (qq : Int) mk p' y.size y.count y.items : Nd), hd, bsy) :: t) j := HG3.out.relist HBB.out (.inl rfl) hoi hop hi4 hlp rfl
     have ho4 := HO3.out.trans (hoi.mono (fun b hb => .inl (by
      rw [HE2.out.2.2, blkB_app, blkB_cons]
      refine List.mem_cons_of_mem _ (List.mem_append_right _ (List.mem_append_left _ ?_))
      show b ∈ bsy
      rw [show bsy = b1 ++ b2 from HBB.out]
      exact List.mem_append_left _ hb)))
     obtain ⟨d0, d1, d2, d3, d4, d5, df⟩ := hg4.cells
     have hd3 := df (pre.length * 6 + 3)
     have hg5 : RowG (W4.setCell ⟨g, pre.length * 6 + 3, none⟩ (.int .i64 (q1 : Int))) g c (pre ++ ((.mk (qq : Int) mk p' (q1 : Int) y.count y.items : Nd), hd, bsy) :: t) j := hg4.set (n' := .mk (qq : Int) mk p' (q1 : Int) y.count y.items) 3 (.int .i64 (q1 : Int)) (by decide) rfl (cellE_ne 3 (fun _ => rfl) (fun _ => rfl) rfl (fun h => absurd rfl h) (fun _ => rfl) rfl rfl) rfl rfl hg4.dsize
     obtain ⟨f0, f1, f2, f3, f4, f5, ff⟩ := hg5.cells
     have hf4 := ff (pre.length * 6 + 4)
     have hg6 : RowG ((W4.setCell ⟨g, pre.length * 6 + 3, none⟩ (.int .i64 (q1 : Int))).setCell ⟨g, pre.length * 6 + 4, none⟩ (.int .i64 ((q1 : Int) + 1))) g c (pre ++ ((.mk (qq : Int) mk p' (q1 : Int) ((q1 : Int) + 1) y.items : Nd), hd, bsy) :: t) j := hg5.set (n' := .mk (qq : Int) mk p' (q1 : Int) ((q1 : Int) + 1) y.items) 4 (.int .i64 ((q1 : Int) + 1)) (by decide) rfl (cellE_ne 4 (fun _ => rfl) (fun _ => rfl) rfl (fun _ => rfl) (fun h => absurd rfl h) rfl rfl) rfl rfl hg5.dsize
     have ho6 := (ho4.trans (OnlyIn.setCell (p := ⟨g, pre.length * 6 + 3, none⟩) hgb (.int .i64 (q1 : Int)))).trans (OnlyIn.setCell (p := ⟨g, pre.length * 6 + 4, none⟩) hgb (.int .i64 ((q1 : Int) + 1)))
     obtain ⟨g0, g1, g2, g3, g4, g5, gf⟩ := hg6.cells
     have g5' : ((W4.setCell ⟨g, pre.length * 6 + 3, none⟩ (.int .i64 (q1 : Int))).setCell ⟨g, pre.length * 6 + 4, none⟩ (.int .i64 ((q1 : Int) + 1))).cell? ⟨g, pre.length * 6 + 5, none⟩ = some (.slice hd.B y.items.length hd.b) := g5
     have f4' : (W4.setCell ⟨g, pre.length * 6 + 3, none⟩ (.int .i64 (q1 : Int))).cell? ⟨g, pre.length * 6 + 4, none⟩ = some (.int .i64 y.count) := f4
     have d3' : W4.cell? ⟨g, pre.length * 6 + 3, none⟩ = some (.int .i64 y.size) := d3
     have hw3 : IntKind.i64.wrap ((q1 : Int) + 1) = (q1 : Int) + 1 := by rw [IntKind.wrap_i64]; omega
     have hw4 : IntKind.i64.wrap ((q1 : Int) + 1 + 1) = (q1 : Int) + 1 + 1 := by rw [IntKind.wrap_i64]; omega
     have HG6 := Lib.hid hg6
     have HO6 := Lib.hid ho6
     obtain ⟨c1, c2, hcc, ls1, ls2, nd1, nd2, ng1, ng2⟩ := hg6.lists
     have HC2 := Lib.hid (HIH.out hd.B hd.b y.items c2 _ (q1 + 2) ls2 nd2 (by omega) (by omega))
     have HL1 := Lib.hid ls1
     have HCC := Lib.hid hcc
     have HHP := Lib.hid (And.intro hhp hlp)
     clear hg4 ho4 hg5 hg6 ho6 hi4 hop hhp hoi hdis HG3 HO3 HC1 HL2 d0 d1 d2 d3 d4 d5 df f0 f1 f2 f3 f4 f5 ff g0 g1 g2 g3 g4 g5 gf ls1 ls2 nd1 nd2 ng1 ng2 hcc hw1 hw2 hlp
     go_wp2_with fail
     generalize (W4.setCell ⟨g, pre.length * 6 + 3, none⟩ (.int .i64 (q1 : Int))).setCell ⟨g, pre.length * 6 + 4, none⟩ (.int .i64 ((q1 : Int) + 1)) = W6 at *
     clear d3' hd3 f4' hf4 g5'
     refine HC2.out.mono ?_
     rintro e W7 ⟨i', q2, rfl, hq2a, hq2b, hli, hoi2, hhi, hoj⟩
     have hdis := (List.nodup_append.1 (show (c1 ++ c2).Nodup by
      have h := HND.out
      rw [HE2.out.2.2, blkB_app, blkB_cons] at h
      have h' := (List.nodup_append.1 (List.nodup_append.1 (List.nodup_cons.1 h).2).2.1).1
      rw [← HCC.out]
      exact h')).2.2
     have hp7 := HL1.out.frame (w' := W7) _ _ _ _ _ (fun b hb => hoj.block b (HL1.out.lt _ _ _ _ _ b hb).1 (fun hm => hdis b hb b hm rfl))
     have hg7 : RowG W7 g c (pre ++ ((.mk (qq : Int) mk p' (q1 : Int) ((q1 : Int) + 1) i' : Nd), hd, bsy) :: t) j := HG6.out.relist HCC.out (.inr rfl) hoj hp7 hoi2 rfl hli
     have HOI7 := Lib.hid (HO6.out.trans (hoj.mono (fun b hb => .inl (by
      rw [HE2.out.2.2, blkB_app, blkB_cons]
      refine List.mem_cons_of_mem _ (List.mem_append_right _ (List.mem_append_left _ ?_))
      show b ∈ bsy
      rw [show bsy = c1 ++ c2 from HCC.out]
      exact List.mem_append_right _ hb))))
     have HR7 : Hid (MkR l g c j bs q (pre.length + 1) q2 W7) := Lib.hid ⟨pre ++ [((.mk (qq : Int) mk p' (q1 : Int) ((q1 : Int) + 1) i' : Nd), hd, bsy)], t, by simp, HE2.out.1, by rw [List.append_assoc]; exact hg7, by
      rw [List.append_assoc, List.singleton_append, HE2.out.2.2, blkB_app, blkB_app, blkB_cons, blkB_cons], by
      rw [List.map_append]
      exact (helS_app _ _ _ _ _).2 ⟨qq, HE2.out.2.1, (helS_one _ _ _ _).2 ⟨q1, rfl, HMK.out, HHP.out.1, rfl, rfl, hhi⟩⟩, by omega, by omega⟩
     clear hg7 hp7 hdis hoi2 hhi hoj hw3 hw4 HC2 HL1 HG6 HO6
     go_wp2
     go_roundw
     case rel => exact ⟨pre.length + 1, q2, rfl, by go_num, by omega, HR7, HOI7⟩
     case measure => simp [intOf]; omega
  · obtain rfl : k = l.length := by omega
    rw [List.drop_length] at hpost
    obtain rfl : post = [] := List.map_eq_nil_iff.1 hpost
    rw [List.append_nil] at hg hbs
    obtain ⟨o1, o2⟩ := hg.own
    rw [List.take_of_length_le (Nat.le_refl _)] at hqb
    have HFIN : Hid (∃ (l' : List Nd) (q' : Nat), Ending.returned (.int .i64 (qq : Int)) = .returned (.int .i64 (q' : Int)) ∧ q ≤ q' ∧ q' ≤ q + 4 * sizL l ∧ l'.length = l.length ∧ OwS wr (j + 1) (some ⟨g, 0, none⟩) c l' bs ∧ HelS (j + 1) l' q q' ∧ OnlyIn bs w wr) := Lib.hid ⟨pre.map (·.1), qq, rfl, hqa, hqb, by rw [List.length_map, hpk], by rw [hbs]; exact o1, hhel, HOI.out⟩
    clear hpk hpost hg hbs hhel hqa hqb HR HOI o1 o2
    go_wp2
    go_ret
    exact HFIN.out
theorem mkS_any : ∀ m, MkS m
 | 0 => mkS_of 0 (fun j h => by cases h)
 | m + 1 => mkS_of (m + 1) (fun j h => by obtain rfl : m = j := by omega
                                          exact mkS_any m)
theorem helS_len : ∀ (m : Nat) (l : List Nd) (q q' : Nat), HelS m l q q' → q + 4 * l.length ≤ q'
 | 0, l, q, q', h => by
   rw [HelS] at h
   obtain ⟨rfl, rfl⟩ := h
   simp
 | m + 1, [], q, q', h => by
   obtain rfl := (helS_nil _ _ _).1 h
   simp
 | m + 1, y :: t, q, q', h => by
   obtain ⟨q2, ⟨q1, _, _, h1, _, _, h2⟩, h3⟩ := (helS_cons _ _ _ _ _).1 h
   have a := helS_len m _ _ _ h1
   have b := helS_len m _ _ _ h2
   have c := helS_len (m + 1) t _ _ h3
   rw [List.length_cons]
   omega
termination_by m l => (m, l.length)
def HeS (m : Nat) : Prop := ∀ (A : Option Addr) (c : Nat) (l : List Nd) (w : World) (S : Nat → Prop) (q q' : Nat), NdsAt w S m A l → HelS m l q q' → 1 ≤ q → q' ≤ 200000000 →
 Calls Tryz.prog 58 #[.slice A l.length c, .int .i64 (q : Int)] w fun e w' => e = .returned (.int .i64 (q' : Int)) ∧ Below w.heap.size w w'
theorem heS_of (m : Nat) (IH : ∀ j, m = j + 1 → HeS j) : HeS m := by
 intro A c l w S q q' hn hh h1 h2
 have hlq := helS_len m l q q' hh
 have hlm : l.length ≤ 100000000 := by omega
 have HN := Lib.hid hn
 have HIH := Lib.hid IH
 have HH0 : Hid (HelS m (l.drop 0) q q') := Lib.hid hh
 clear hn hh IH
 go_enter Tryz.func58, Tryz.ntmps58
 go_wp2_with fail
 go_loopw [1, 5] (fun u i wr => ∃ (k qq : Nat), u = .int .i64 (qq : Int) ∧ i = .int .i64 k ∧ k ≤ l.length ∧ 1 ≤ qq ∧ Hid (HelS m (l.drop k) qq q') ∧ Hid (Below w.heap.size w wr)) (fun _ i _ => l.length - (intOf i).toNat)
 case atStart => exact ⟨0, q, rfl, rfl, by omega, h1, HH0, Lib.hid (Below.refl _ _)⟩
 case round =>
  clear HH0
  obtain ⟨k, qq, rfl, rfl, hk, hq1, HH, HB⟩ := hrel
  by_cases hlt : k < l.length
  · obtain ⟨j, rfl⟩ := HN.out.pred hlt
    obtain ⟨x, hd, rfl, hc, hne⟩ := (HN.out.below HB.out).at_ hlt
    have hdrop : l.drop k = l[k] :: l.drop (k + 1) := List.drop_eq_getElem_cons hlt
    have hhk := HH.out
    rw [hdrop] at hhk
    obtain ⟨qb, ⟨qa, hk0, hk1, hk2, hk3, hk4, hk5⟩, hrest⟩ := (helS_cons _ _ _ _ _).1 hhk
    have hl2 := helS_len _ _ _ _ hk2
    have hl5 := helS_len _ _ _ _ hk5
    have hlr := helS_len _ _ _ _ hrest
    have HREST := Lib.hid hrest
    obtain ⟨y, hy⟩ : ∃ y, y = l[k] := ⟨_, rfl⟩
    rw [← hy] at hc hne hk0 hk1 hk2 hk3 hk4 hk5
    have hkq : (y.kind != (qq : Int)) = false := by rw [hk0]; simp
    have hsq : (y.size != (qa : Int)) = false := by rw [hk3]; simp
    have hcq : (y.count != (qa : Int) + 1) = false := by rw [hk4]; simp
    obtain ⟨mk, hmk⟩ : ∃ mk, mk = markB (qq + 1) := ⟨_, rfl⟩
    have HMT : Hid (∀ W : World, Calls Tryz.prog 57 #[.int .i64 ((qq : Int) + 1)] W fun e w' => e = .returned (.string mk) ∧ Below W.heap.size W w') := Lib.hid fun W => by rw [hmk]; exact markText_any (qq + 1) W (by omega) (by omega)
    have HC1 : Hid (∀ W : World, Below wr.heap.size wr W → Calls Tryz.prog 58 #[.slice hd.A y.ptrs.length hd.a, .int .i64 ((qq : Int) + 1 + 1)] W fun e w' => e = .returned (.int .i64 (qa : Int)) ∧ Below W.heap.size W w') := Lib.hid fun W hW => HIH.out j rfl hd.A hd.a y.ptrs W S (qq + 2) qa (hne.2.1.below hW) hk2 (by omega) (by omega)
    have HC2 : Hid (∀ W : World, Below wr.heap.size wr W → Calls Tryz.prog 58 #[.slice hd.B y.items.length hd.b, .int .i64 ((qa : Int) + 1 + 1)] W fun e w' => e = .returned (.int .i64 (qb : Int)) ∧ Below W.heap.size W w') := Lib.hid fun W hW => HIH.out j rfl hd.B hd.b y.items W S (qa + 2) qb (hne.2.2.below hW) hk5 (by omega) (by omega)
    have HCE := Lib.hid hc
    have hw1 : IntKind.i64.wrap ((qq : Int) + 1) = (qq : Int) + 1 := by rw [IntKind.wrap_i64]; omega
    have hw2 : IntKind.i64.wrap ((qq : Int) + 1 + 1) = (qq : Int) + 1 + 1 := by rw [IntKind.wrap_i64]; omega
    have hw3 : IntKind.i64.wrap ((qa : Int) + 1) = (qa : Int) + 1 := by rw [IntKind.wrap_i64]; omega
    have hw4 : IntKind.i64.wrap ((qa : Int) + 1 + 1) = (qa : Int) + 1 + 1 := by rw [IntKind.wrap_i64]; omega
    have hn1 : ¬ ((qa : Int) < 0) := by omega
    have hn2 : ¬ ((qb : Int) < 0) := by omega
    obtain ⟨d0, d1, d2, d3, d4, d5⟩ := hc
    rw [hk1, ← hmk] at d1
    have hHD : Hid (y.data = mk) := Lib.hid (hk1.trans hmk.symm)
    clear hdrop hhk hrest hne hk0 hk1 hk2 hk3 hk4 hk5 hy hmk
    go_wp2_with fail
    go_region_with (go_at_call 57; (with_reducible refine (HMT.out _).mono ?_); rintro e w2 ⟨rfl, hb2⟩; have d1' := (cell_below (w := wr) (w' := w2) ⟨hb2.os, hb2.tape, hb2.output, hb2.size, hb2.block⟩ _ _ _ HCE.out).c1; rw [hHD.out] at d1')
    all_goals
     have hb2' : Below wr.heap.size wr w2 := ⟨hb2.os, hb2.tape, hb2.output, hb2.size, hb2.block⟩
     have HB2 := Lib.hid hb2'
     clear hb2 hb2' d0 d1 d2 d3 d4 d5 d1'
     obtain ⟨d0, d1, d2, d3, d4, d5⟩ := cell_below HB2.out _ _ _ HCE.out
     clear d1
     go_wp2_with fail
     refine (HC1.out _ HB2.out).mono ?_
     rintro e w3 ⟨rfl, hb3⟩
     have HB3 := Lib.hid (HB2.out.trans (hb3.mono HB2.out.size))
     clear hb3 d0 d2 d3 d4 d5
     obtain ⟨d0, d1, d2, d3, d4, d5⟩ := cell_below HB3.out _ _ _ HCE.out
     clear d1
     go_wp2_with fail
     refine (HC2.out _ HB3.out).mono ?_
     rintro e w4 ⟨rfl, hb4⟩
     have HB4 := Lib.hid (HB.out.trans ((HB3.out.trans (hb4.mono HB3.out.size)).mono HB.out.size))
     clear hb4 d0 d2 d3 d4 d5
     go_wp2
     go_roundw
     case rel => exact ⟨k + 1, qb, rfl, by go_num, by omega, by omega, HREST, HB4⟩
     case measure => simp [intOf]; omega
  · obtain rfl : k = l.length := by omega
    have hh := HH.out
    rw [List.drop_length] at hh
    obtain rfl := (helS_nil _ _ _).1 hh
    clear hh
    go_wp2
    go_ret
    exact ⟨rfl, HB.out⟩
theorem heS_any : ∀ m, HeS m
 | 0 => heS_of 0 (fun j h => by cases h)
 | m + 1 => heS_of (m + 1) (fun j h => by obtain rfl : m = j := by omega
                                          exact heS_any m)
def MkN (m : Nat) (n : Nd) (h : Hd) (bs : List Nat) (w : World) (q : Nat) (e : Ending) (w' : World) : Prop := ∃ (p i : List Nd) (q1 q2 : Nat), e = .returned (.int .i64 (q2 : Int)) ∧ q2 ≤ 200000000 ∧ p.length = n.ptrs.length ∧ i.length = n.items.length ∧ OwN w' m (.mk n.kind n.data p n.size n.count i) h bs ∧ HelS m p q q1 ∧ HelS m i q1 q2 ∧ OnlyIn bs w w'
theorem markNode_any (m : Nat) (n : Nd) (h : Hd) (bs : List Nat) (w : World) (q : Nat) (hn : OwN w m n h bs) (hnd : bs.Nodup) (h1 : 1 ≤ q) (h2 : q + 4 * sizN n ≤ 100000000) :
 Calls Tryz.prog 15 #[.agg #[.int .i64 n.kind, .string n.data, .slice h.A n.ptrs.length h.a, .int .i64 n.size, .int .i64 n.count, .slice h.B n.items.length h.b], .int .i64 (q : Int)] w (MkN m n h bs w q) := by
 obtain ⟨qA, qa, qB, qb⟩ := h
 rw [sizN_eq] at h2
 have hlt := fun b hb => (hn.lt b hb).1
 obtain ⟨hdm, b1, b2, hbs, o1, o2⟩ := hn
 have hnd' := hnd
 rw [hbs] at hnd'
 have hnp := List.nodup_append.1 hnd'
 have hba : Below w.heap.size w (w.alloc (.cells #[.int .i64 n.kind, .string n.data, .slice qA n.ptrs.length qa, .int .i64 n.size, .int .i64 n.count, .slice qB n.items.length qb] nodeT)) := (Below.refl _ _).alloc (Nat.le_refl _) _
 have HP := Lib.hid (heap_alloc_new w (.cells #[.int .i64 n.kind, .string n.data, .slice qA n.ptrs.length qa, .int .i64 n.size, .int .i64 n.count, .slice qB n.items.length qb] nodeT))
 have HC1 := Lib.hid (mkS_any m qA qa n.ptrs b1 _ q (OwS.below o1 hba) hnp.1 h1 (by omega))
 have HO2 := Lib.hid (OwS.below o2 hba)
 have HBA := Lib.hid (OnlyIn.of_below (bs := bs) hba)
 have HDS := Lib.hid hnp.2.2
 have HN2 := Lib.hid hnp.2.1
 have HLT := Lib.hid hlt
 have HBS := Lib.hid hbs
 have HDM := Lib.hid hdm
 have hsz : (w.alloc (.cells #[.int .i64 n.kind, .string n.data, .slice qA n.ptrs.length qa, .int .i64 n.size, .int .i64 n.count, .slice qB n.items.length qb] nodeT)).heap.size = w.heap.size + 1 := by simp
 clear o1 o2 hnd hnd' hnp hba hlt hbs hdm
 unfold MkN
 go_enter Tryz.func15, Tryz.ntmps15
 go_wp2_with fail
 generalize w.alloc (.cells #[.int .i64 n.kind, .string n.data, .slice qA n.ptrs.length qa, .int .i64 n.size, .int .i64 n.count, .slice qB n.items.length qb] nodeT) = W at *
 refine HC1.out.mono ?_
 rintro e w1 ⟨p, q1, rfl, ha, hb, hl, hop, hhp, hoi⟩
 have hp1 := (hoi.block w.heap.size (by omega) (fun hm => by have := HLT.out _ (by rw [HBS.out]; exact List.mem_append_left _ hm); omega)).trans HP.out
 obtain ⟨a0, a1, a2, a3, a4, a5⟩ := cells6 hp1
 have HO21 : Hid (OwS w1 m qB qb n.items b2) := Lib.hid (HO2.out.frame _ _ _ _ _ (fun b hb => hoi.block b (HO2.out.lt _ _ _ _ _ b hb).1 (fun hm => HDS.out b hm b hb rfl)))
 have HC2 := Lib.hid (mkS_any m qB qb n.items b2 w1 q1 HO21.out HN2.out (by omega) (by omega))
 have HB1 := Lib.hid (HBA.out.trans (hoi.mono (fun b hb => .inl (by rw [HBS.out]; exact List.mem_append_left _ hb))))
 have HOP := Lib.hid hop
 have HHP := Lib.hid (And.intro hhp hl)
 clear hop hhp hoi hp1 hl HC1 HO2 HBA
 go_wp2_with fail
 refine HC2.out.mono ?_
 rintro e w2 ⟨i, q2, rfl, ha2, hb2, hl2, hoi2, hhi, hoj⟩
 have HFIN : Hid (∃ (p' i' : List Nd) (q1' q2' : Nat), Ending.returned (.int .i64 (q2 : Int)) = .returned (.int .i64 (q2' : Int)) ∧ q2' ≤ 200000000 ∧ p'.length = n.ptrs.length ∧ i'.length = n.items.length ∧ OwN w2 m (.mk n.kind n.data p' n.size n.count i') ⟨qA, qa, qB, qb⟩ bs ∧ HelS m p' q q1' ∧ HelS m i' q1' q2' ∧ OnlyIn bs w w2) := Lib.hid ⟨p, i, q1, q2, rfl, by omega, HHP.out.2, hl2, ⟨HDM.out, b1, b2, HBS.out, HOP.out.frame _ _ _ _ _ (fun b hb => hoj.block b (HOP.out.lt _ _ _ _ _ b hb).1 (fun hm => HDS.out b hb b hm rfl)), hoi2⟩, HHP.out.1, hhi, HB1.out.trans (hoj.mono (fun b hb => .inl (by rw [HBS.out]; exact List.mem_append_right _ hb)))⟩
 clear hoi2 hhi hoj a0 a1 a2 a3 a4 a5
 go_wp2
 go_ret
 exact HFIN.out
theorem heldNode_any (m : Nat) (n : Nd) (h : Hd) (w : World) (S : Nat → Prop) (q q1 q2 : Nat) (hn : NdAt w S m n h) (hp : HelS m n.ptrs q q1) (hi : HelS m n.items q1 q2) (h1 : 1 ≤ q) (h2 : q2 ≤ 200000000) :
 Calls Tryz.prog 24 #[.agg #[.int .i64 n.kind, .string n.data, .slice h.A n.ptrs.length h.a, .int .i64 n.size, .int .i64 n.count, .slice h.B n.items.length h.b], .int .i64 (q : Int)] w fun e w' => e = .returned (.int .i64 (q2 : Int)) ∧ Below w.heap.size w w' := by
 obtain ⟨qA, qa, qB, qb⟩ := h
 have hl1 := helS_len _ _ _ _ hp
 have hl2 := helS_len _ _ _ _ hi
 have hba : Below w.heap.size w (w.alloc (.cells #[.int .i64 n.kind, .string n.data, .slice qA n.ptrs.length qa, .int .i64 n.size, .int .i64 n.count, .slice qB n.items.length qb] nodeT)) := (Below.refl _ _).alloc (Nat.le_refl _) _
 have HP := Lib.hid (heap_alloc_new w (.cells #[.int .i64 n.kind, .string n.data, .slice qA n.ptrs.length qa, .int .i64 n.size, .int .i64 n.count, .slice qB n.items.length qb] nodeT))
 have HC1 : Hid (∀ W : World, Below w.heap.size w W → Calls Tryz.prog 58 #[.slice qA n.ptrs.length qa, .int .i64 (q : Int)] W fun e w' => e = .returned (.int .i64 (q1 : Int)) ∧ Below W.heap.size W w') := Lib.hid fun W hW => heS_any m qA qa n.ptrs W S q q1 (hn.2.1.below hW) hp h1 (by omega)
 have HC2 : Hid (∀ W : World, Below w.heap.size w W → Calls Tryz.prog 58 #[.slice qB n.items.length qb, .int .i64 (q1 : Int)] W fun e w' => e = .returned (.int .i64 (q2 : Int)) ∧ Below W.heap.size W w') := Lib.hid fun W hW => heS_any m qB qb n.items W S q1 q2 (hn.2.2.below hW) hi (by omega) h2
 have HBA := Lib.hid hba
 have hn1 : ¬ ((q1 : Int) < 0) := by omega
 have hn2 : ¬ ((q2 : Int) < 0) := by omega
 clear hn hp hi hba
 go_enter Tryz.func24, Tryz.ntmps24
 go_wp2_with fail
 refine (HC1.out _ HBA.out).mono ?_
 rintro e w1 ⟨rfl, hb1⟩
 have HB1 := Lib.hid (HBA.out.trans (hb1.mono HBA.out.size))
 obtain ⟨a0, a1, a2, a3, a4, a5⟩ := cells6 ((hb1.block _ (row_lt HP.out)).trans HP.out)
 clear hb1
 go_wp2_with fail
 refine (HC2.out _ HB1.out).mono ?_
 rintro e w2 ⟨rfl, hb2⟩
 have HB2 := Lib.hid (HB1.out.trans (hb2.mono HB1.out.size))
 clear hb2 a0 a1 a2 a3 a4 a5
 go_wp2
 go_ret
 exact ⟨rfl, HB2.out⟩
theorem eqVal_a (m : Nat) (x : Int) (y : Nd) (h1 h2 : Hd) (w : World) (S S' : Nat → Prop) (a : NdAt w S m y h1) (b : NdAt w S' m y h2) (ht : totN m y ≤ 2000000) :
 Calls Tryz.prog 11 #[valV x y h1, valV x y h2] w fun e w' => e = .returned (.bool true) ∧ Below w.heap.size w w' := by
 have q0 := al_first w (.cells #[.int .i64 x, .int .i64 y.kind, .string y.data, .slice h1.A y.ptrs.length h1.a, .int .i64 y.size, .int .i64 y.count, .slice h1.B y.items.length h1.b] valT)
 have q1 := al_next q0 (.cells #[.int .i64 x, .int .i64 y.kind, .string y.data, .slice h2.A y.ptrs.length h2.a, .int .i64 y.size, .int .i64 y.count, .slice h2.B y.items.length h2.b] valT)
 have r0 := heap_alloc_keep (heap_alloc_new w (.cells #[.int .i64 x, .int .i64 y.kind, .string y.data, .slice h1.A y.ptrs.length h1.a, .int .i64 y.size, .int .i64 y.count, .slice h1.B y.items.length h1.b] valT)) (.cells #[.int .i64 x, .int .i64 y.kind, .string y.data, .slice h2.A y.ptrs.length h2.a, .int .i64 y.size, .int .i64 y.count, .slice h2.B y.items.length h2.b] valT)
 have r1 := al_row q0 #[.int .i64 x, .int .i64 y.kind, .string y.data, .slice h2.A y.ptrs.length h2.a, .int .i64 y.size, .int .i64 y.count, .slice h2.B y.items.length h2.b] valT
 have HE := Lib.hid (fun (W : World) (hW : Below w.heap.size w W) => eqN_any m y h1 h2 W S S' (a.below hW) (b.below hW) ht)
 have HB0 := Lib.hid q1.2
 obtain ⟨a0, a1, a2, a3, a4, a5, a6⟩ := cellsV r0
 obtain ⟨b0, b1, b2, b3, b4, b5, b6⟩ := cellsV r1
 clear q1 q0 r0 r1 a b ht
 go_enter Tryz.func11, Tryz.ntmps11
 go_wp2_with fail
 refine (HE.out _ HB0.out).mono ?_
 rintro e w1 ⟨rfl, hb1⟩
 have HB1 := Lib.hid (HB0.out.trans (hb1.mono HB0.out.size))
 clear hb1 a0 a1 a2 a3 a4 a5 a6 b0 b1 b2 b3 b4 b5 b6
 go_wp2
 go_ret
 exact ⟨rfl, HB1.out⟩
theorem markVal_a (m : Nat) (x : Int) (n : Nd) (h : Hd) (bs : List Nat) (w : World) (q : Nat) (hn : OwN w m n h bs) (hnd : bs.Nodup) (h1 : 1 ≤ q) (h2 : q + 4 * sizN n ≤ 100000000) :
 Calls Tryz.prog 16 #[valV x n h, .int .i64 (q : Int)] w (MkN m n h bs w q) := by
 have q0 := al_first w (.cells #[.int .i64 x, .int .i64 n.kind, .string n.data, .slice h.A n.ptrs.length h.a, .int .i64 n.size, .int .i64 n.count, .slice h.B n.items.length h.b] valT)
 have r0 := heap_alloc_new w (.cells #[.int .i64 x, .int .i64 n.kind, .string n.data, .slice h.A n.ptrs.length h.a, .int .i64 n.size, .int .i64 n.count, .slice h.B n.items.length h.b] valT)
 have HC := Lib.hid (markNode_any m n h bs _ q (hn.below q0.2) hnd h1 h2)
 have HO := Lib.hid (OnlyIn.of_below (bs := bs) q0.2)
 obtain ⟨a0, a1, a2, a3, a4, a5, a6⟩ := cellsV r0
 clear q0 r0 hn hnd h1 h2
 unfold MkN at HC ⊢
 go_enter Tryz.func16, Tryz.ntmps16
 go_wp2_with fail
 generalize w.alloc (.cells #[.int .i64 x, .int .i64 n.kind, .string n.data, .slice h.A n.ptrs.length h.a, .int .i64 n.size, .int .i64 n.count, .slice h.B n.items.length h.b] valT) = W at *
 clear a0 a1 a2 a3 a4 a5 a6
 refine HC.out.mono ?_
 rintro e w1 ⟨p, i, q1, q2, rfl, g1, g2, g3, g4, g5, g6, g7⟩
 have HF : Hid (∃ (p' i' : List Nd) (q1' q2' : Nat), Ending.returned (.int .i64 (q2 : Int)) = .returned (.int .i64 (q2' : Int)) ∧ q2' ≤ 200000000 ∧ p'.length = n.ptrs.length ∧ i'.length = n.items.length ∧ OwN w1 m (.mk n.kind n.data p' n.size n.count i') h bs ∧ HelS m p' q q1' ∧ HelS m i' q1' q2' ∧ OnlyIn bs w w1) := Lib.hid ⟨p, i, q1, q2, rfl, g1, g2, g3, g4, g5, g6, HO.out.trans g7⟩
 clear g1 g2 g3 g4 g5 g6 g7
 go_wp2
 go_ret
 exact HF.out
theorem heldVal_a (m : Nat) (x : Int) (n : Nd) (h : Hd) (w : World) (S : Nat → Prop) (q q1 q2 : Nat) (hn : NdAt w S m n h) (hp : HelS m n.ptrs q q1) (hi : HelS m n.items q1 q2) (h1 : 1 ≤ q) (h2 : q2 ≤ 200000000) :
 Calls Tryz.prog 17 #[valV x n h, .int .i64 (q : Int)] w fun e w' => e = .returned (.int .i64 (q2 : Int)) ∧ Below w.heap.size w w' := by
 have q0 := al_first w (.cells #[.int .i64 x, .int .i64 n.kind, .string n.data, .slice h.A n.ptrs.length h.a, .int .i64 n.size, .int .i64 n.count, .slice h.B n.items.length h.b] valT)
 have r0 := heap_alloc_new w (.cells #[.int .i64 x, .int .i64 n.kind, .string n.data, .slice h.A n.ptrs.length h.a, .int .i64 n.size, .int .i64 n.count, .slice h.B n.items.length h.b] valT)
 have HC := Lib.hid (heldNode_any m n h _ S q q1 q2 (hn.below q0.2) hp hi h1 h2)
 have HB0 := Lib.hid q0.2
 obtain ⟨a0, a1, a2, a3, a4, a5, a6⟩ := cellsV r0
 have hq2 : ¬ ((q2 : Int) < 0) := by omega
 clear q0 r0 hn hp hi h1 h2
 go_enter Tryz.func17, Tryz.ntmps17
 go_wp2_with fail
 generalize w.alloc (.cells #[.int .i64 x, .int .i64 n.kind, .string n.data, .slice h.A n.ptrs.length h.a, .int .i64 n.size, .int .i64 n.count, .slice h.B n.items.length h.b] valT) = W at *
 clear a0 a1 a2 a3 a4 a5 a6
 refine HC.out.mono ?_
 rintro e w1 ⟨rfl, hb1⟩
 have HB1 := Lib.hid (HB0.out.trans (hb1.mono HB0.out.size))
 clear hb1
 go_wp2
 go_ret
 exact ⟨rfl, HB1.out⟩
end Go.Proofs.YtehhbbdaeonebaaGreatDoor
namespace Go.Proofs.YtehhbbdaeonebaaGreatDoor
structure Fld where
 size : Int
 choice : Bool
 els : Int
structure LS where
 words : Nat
 hole : Nat → Nat
def upd (h : Nat → Nat) (k v : Nat) : Nat → Nat := fun i => if i = k then v else h i
theorem upd_same (h : Nat → Nat) (k v : Nat) : upd h k v k = v := by simp [upd]
theorem upd_other (h : Nat → Nat) (k v i : Nat) (hi : i ≠ k) : upd h k v i = h i := by simp [upd, hi]
def roomF : Nat → LS → Nat × LS
 | 0, s => (s.words, ⟨s.words + 1, s.hole⟩)
 | k + 1, s => if s.hole (k + 1) ≠ 0 then (s.hole (k + 1), ⟨s.words, upd s.hole (k + 1) 0⟩) else (2 * (roomF k s).1, ⟨(roomF k s).2.words, upd (roomF k s).2.hole (k + 1) (2 * (roomF k s).1 + 1)⟩)
theorem room_hit (k : Nat) (s : LS) (h : s.hole (k + 1) ≠ 0) : roomF (k + 1) s = (s.hole (k + 1), ⟨s.words, upd s.hole (k + 1) 0⟩) := by rw [roomF, if_pos h]
theorem room_miss (k : Nat) (s : LS) (h : s.hole (k + 1) = 0) : roomF (k + 1) s = (2 * (roomF k s).1, ⟨(roomF k s).2.words, upd (roomF k s).2.hole (k + 1) (2 * (roomF k s).1 + 1)⟩) := by rw [roomF, if_neg (by simp [h])]
def LBd (n : Nat) (s : LS) : Prop := s.words ≤ n ∧ ∀ i, s.hole i < 2 ^ i * (n + 1)
theorem LBd.mono {n m : Nat} {s : LS} (h : LBd n s) (hm : n ≤ m) : LBd m s := ⟨Nat.le_trans h.1 hm, fun i => Nat.lt_of_lt_of_le (h.2 i) (Nat.mul_le_mul_left _ (by omega))⟩
theorem room_bd_aux (n : Nat) (s : LS) (h : LBd n s) : ∀ k, (roomF k s).1 < 2 ^ k * (n + 1) ∧ (roomF k s).2.words ≤ n + 1 ∧ (∀ i, (roomF k s).2.hole i < 2 ^ i * (n + 1))
 | 0 => by
   refine ⟨?_, ?_, h.2⟩
   · show s.words < _; have := h.1; omega
   · show s.words + 1 ≤ _; have := h.1; omega
 | k + 1 => by
   obtain ⟨i1, i2, i3⟩ := room_bd_aux n s h k
   by_cases h0 : s.hole (k + 1) = 0
   · rw [room_miss k s h0]
     refine ⟨?_, i2, fun i => ?_⟩
     · show 2 * (roomF k s).1 < _
       rw [Nat.pow_succ]
       have : 2 ^ k * 2 * (n + 1) = 2 * (2 ^ k * (n + 1)) := by rw [Nat.mul_comm (2 ^ k) 2, Nat.mul_assoc]
       omega
     · show upd _ _ _ i < _
       by_cases hi : i = k + 1
       · subst hi
         rw [upd_same, Nat.pow_succ]
         have : 2 ^ k * 2 * (n + 1) = 2 * (2 ^ k * (n + 1)) := by rw [Nat.mul_comm (2 ^ k) 2, Nat.mul_assoc]
         omega
       · rw [upd_other _ _ _ _ hi]; exact i3 i
   · rw [room_hit k s h0]
     refine ⟨h.2 _, by show s.words ≤ _; have := h.1; omega, fun i => ?_⟩
     show upd _ _ _ i < _
     by_cases hi : i = k + 1
     · subst hi
       rw [upd_same]
       exact Nat.lt_of_le_of_lt (Nat.zero_le _) (h.2 (k + 1))
     · rw [upd_other _ _ _ _ hi]; exact h.2 i
theorem room_bd {n : Nat} {s : LS} (h : LBd n s) (k : Nat) : (roomF k s).1 < 2 ^ k * (n + 1) ∧ LBd (n + 1) (roomF k s).2 := by
 obtain ⟨i1, i2, i3⟩ := room_bd_aux n s h k
 exact ⟨i1, i2, fun i => Nat.lt_of_lt_of_le (i3 i) (Nat.mul_le_mul_left _ (by omega))⟩
def holeF : Nat → LS → Option Nat × LS
 | 0, s => (none, s)
 | k + 1, s => if s.hole (k + 1) ≠ 0 then (some (s.hole (k + 1)), ⟨s.words, upd s.hole (k + 1) 0⟩) else
    match holeF k s with
    | (none, _) => (none, s)
    | (some a, t) => (some (2 * a), ⟨t.words, upd t.hole (k + 1) (2 * a + 1)⟩)
def freshF (k : Nat) (s : LS) : LS := ⟨s.words + 1, fun i => if 1 ≤ i ∧ i ≤ k then 2 ^ i * s.words + 1 else s.hole i⟩
theorem room_of_hole (s : LS) : ∀ k, roomF k s = (match holeF k s with | (some a, t) => (a, t) | (none, _) => (2 ^ k * s.words, freshF k s))
 | 0 => by
   simp only [roomF, holeF, freshF]
   refine Prod.ext (by simp) ?_
   simp only [LS.mk.injEq, true_and]
   funext i
   rw [if_neg (by omega)]
 | k + 1 => by
   by_cases h0 : s.hole (k + 1) = 0
   · rw [room_miss k s h0, room_of_hole s k, holeF, if_neg (by simp [h0])]
     cases h : holeF k s with
     | mk o t =>
      cases o with
      | none =>
       simp only
       refine Prod.ext ?_ ?_
       · simp only [Nat.pow_succ]; rw [Nat.mul_comm (2 ^ k) 2, Nat.mul_assoc]
       · simp only [freshF, LS.mk.injEq, true_and]
         funext i
         by_cases hi : i = k + 1
         · subst hi
           rw [upd_same, if_pos ⟨by omega, Nat.le_refl _⟩, Nat.pow_succ, Nat.mul_comm (2 ^ k) 2, Nat.mul_assoc]
         · rw [upd_other _ _ _ _ hi]
           by_cases hc : 1 ≤ i ∧ i ≤ k
           · rw [if_pos hc, if_pos ⟨hc.1, by omega⟩]
           · rw [if_neg hc, if_neg (by omega)]
      | some a => rfl
   · rw [room_hit k s h0, holeF, if_pos h0]
theorem hole_none (s : LS) : ∀ k, (holeF k s).1 = none → (holeF k s).2 = s
 | 0, _ => rfl
 | k + 1, h => by
   rw [holeF] at h ⊢
   by_cases h0 : s.hole (k + 1) ≠ 0
   · rw [if_pos h0] at h; cases h
   · rw [if_neg h0] at h ⊢
     cases hh : holeF k s with
     | mk o t =>
      rw [hh] at h
      cases o with
      | none => rfl
      | some a => cases h
structure PS where
 ls : LS
 ptrs : Nat
 tag : Int
 many : Nat
 shared : List (Nat × Nat)
 point : Int
def kOf (size : Int) : Nat := if size = 1 then 6 else if size = 2 then 3 else if size = 3 then 2 else if size = 4 then 1 else 0
def bitsOf (size : Int) : Int := if size = 1 then 1 else if size = 2 then 8 else if size = 3 then 16 else if size = 4 then 32 else if size = 5 then 64 else 0
def shareF (k : Nat) (s : PS) : Nat × PS :=
 match s.shared.find? (fun r => r.1 ≤ k) with
 | some r => (r.2 * 2 ^ (k - r.1), s)
 | none => ((roomF k s.ls).1, { s with ls := (roomF k s.ls).2, shared := s.shared ++ [(k, (roomF k s.ls).1)] })
def ptrF (s : PS) : Nat × PS := (s.ptrs, { s with ptrs := s.ptrs + 1 })
def sharePtrF (s : PS) : Nat × PS := if s.point < 0 then (s.ptrs, { s with ptrs := s.ptrs + 1, point := s.ptrs }) else (s.point.toNat, s)
def tagF (c : Bool) (s : PS) : PS :=
 if c then (if s.many + 1 = 2 then { s with many := s.many + 1, ls := (roomF 2 s.ls).2, tag := (roomF 2 s.ls).1 } else { s with many := s.many + 1 }) else s
def dataF (k : Nat) (s : PS) : Nat × PS := ((roomF k s.ls).1, { s with ls := (roomF k s.ls).2 })
def placeF (f : Fld) (s : PS) : Nat × PS :=
 if f.size = 6 then (if f.choice then sharePtrF (tagF f.choice s) else ptrF (tagF f.choice s))
 else if f.choice then shareF (kOf f.size) (tagF f.choice s) else dataF (kOf f.size) (tagF f.choice s)
def layF : List Fld → PS → List Nat × PS
 | [], s => ([], s)
 | f :: r, s => ((placeF f s).1 :: (layF r (placeF f s).2).1, (layF r (placeF f s).2).2)
def ps0 : PS := ⟨⟨0, fun _ => 0⟩, 0, -1, 0, [], -1⟩
theorem lay_snoc (f : Fld) : ∀ (l : List Fld) (s : PS), layF (l ++ [f]) s = ((layF l s).1 ++ [(placeF f (layF l s).2).1], (placeF f (layF l s).2).2)
 | [], s => rfl
 | g :: r, s => by
   rw [List.cons_append]
   show (_ :: (layF (r ++ [f]) (placeF g s).2).1, (layF (r ++ [f]) (placeF g s).2).2) = _
   rw [lay_snoc f r]
   rfl
theorem lay_length : ∀ (l : List Fld) (s : PS), (layF l s).1.length = l.length
 | [], _ => rfl
 | f :: r, s => by show _ + 1 = _; rw [lay_length r]; rfl
structure PBd (n : Nat) (s : PS) : Prop where
 ls : LBd (2 * n) s.ls
 ptrs : s.ptrs ≤ n
 tag : -1 ≤ s.tag ∧ s.tag < 4 * (2 * n + 1)
 many : s.many ≤ n
 len : s.shared.length ≤ n
 shared : ∀ r ∈ s.shared, r.1 ≤ 6 ∧ r.2 < 2 ^ r.1 * (2 * n + 1)
 point : -1 ≤ s.point ∧ s.point < s.ptrs
theorem pbd0 : PBd 0 ps0 := ⟨⟨Nat.le_refl _, fun i => by show 0 < _; exact Nat.mul_pos (Nat.pow_pos (by decide)) (by decide)⟩, Nat.le_refl _, by decide, Nat.le_refl _, Nat.le_refl _, (fun _ h => by cases h), by decide⟩
structure PBm (n : Nat) (s : PS) : Prop where
 ls : LBd (2 * n + 1) s.ls
 ptrs : s.ptrs ≤ n
 tag : -1 ≤ s.tag ∧ s.tag < 4 * (2 * n + 2)
 many : s.many ≤ n + 1
 len : s.shared.length ≤ n
 shared : ∀ r ∈ s.shared, r.1 ≤ 6 ∧ r.2 < 2 ^ r.1 * (2 * n + 1)
 point : -1 ≤ s.point ∧ s.point < s.ptrs
theorem tag_bd {n : Nat} {s : PS} (h : PBd n s) (c : Bool) : PBm n (tagF c s) := by
 have hr := room_bd h.ls 2
 obtain ⟨h1, h2, h3, h4, h5, h6, h7⟩ := h
 unfold tagF
 cases c with
 | false =>
  rw [if_neg (by simp)]
  exact ⟨h1.mono (by omega), h2, ⟨h3.1, by omega⟩, by omega, h5, h6, h7⟩
 | true =>
  rw [if_pos rfl]
  by_cases hm : s.many + 1 = 2
  · rw [if_pos hm]
    refine ⟨hr.2, h2, ⟨by show (-1 : Int) ≤ ((roomF 2 s.ls).1 : Int); omega, ?_⟩, by show s.many + 1 ≤ _; omega, h5, h6, h7⟩
    show ((roomF 2 s.ls).1 : Int) < _
    have := hr.1
    simp only [show (2 : Nat) ^ 2 = 4 from rfl] at this
    omega
  · rw [if_neg hm]
    exact ⟨h1.mono (by omega), h2, ⟨h3.1, by dsimp only; omega⟩, by show s.many + 1 ≤ _; omega, h5, h6, h7⟩
theorem kOf_le (z : Int) : kOf z ≤ 6 := by unfold kOf; split <;> (try split) <;> (try split) <;> (try split) <;> omega
theorem room_bd7 {n : Nat} {s : LS} (h : LBd n s) {k : Nat} (hk : k ≤ 6) : (roomF k s).1 < 64 * (n + 1) := by
 have := (room_bd h k).1
 have h2 : 2 ^ k ≤ 2 ^ 6 := Nat.pow_le_pow_right (by decide) hk
 have h3 := Nat.mul_le_mul_right (n + 1) h2
 simp only [show (2 : Nat) ^ 6 = 64 from rfl] at h3
 omega
theorem share_pow {k r : Nat} (h : r ≤ k) : 2 ^ r * 2 ^ (k - r) = 2 ^ k := by rw [← Nat.pow_add]; congr 1; omega
theorem shared_bd {k r a m : Nat} (h : r ≤ k) (hk : k ≤ 6) (ha : a < 2 ^ r * m) : a * 2 ^ (k - r) < 64 * m := by
 have h1 : a * 2 ^ (k - r) < 2 ^ r * m * 2 ^ (k - r) := Nat.mul_lt_mul_of_pos_right ha (Nat.pow_pos (by decide))
 have h2 : 2 ^ r * m * 2 ^ (k - r) = 2 ^ k * m := by rw [Nat.mul_right_comm, share_pow h]
 have h3 : 2 ^ k * m ≤ 2 ^ 6 * m := Nat.mul_le_mul_right _ (Nat.pow_le_pow_right (by decide) hk)
 simp only [show (2 : Nat) ^ 6 = 64 from rfl] at h3
 omega
theorem place_bd {n : Nat} {s : PS} (h : PBd n s) (f : Fld) : PBd (n + 1) (placeF f s).2 ∧ (placeF f s).1 ≤ 64 * (2 * n + 2) := by
 have hm := tag_bd h f.choice
 obtain ⟨h1, h2, h3, h4, h5, h6, h7⟩ := hm
 have hk := kOf_le f.size
 have hr := room_bd h1 (kOf f.size)
 have hr7 := room_bd7 h1 hk
 have hsh : ∀ r ∈ (tagF f.choice s).shared, r.1 ≤ 6 ∧ r.2 < 2 ^ r.1 * (2 * (n + 1) + 1) := fun r hrm => ⟨(h6 r hrm).1, Nat.lt_of_lt_of_le (h6 r hrm).2 (Nat.mul_le_mul_left _ (by omega))⟩
 unfold placeF
 by_cases hp : f.size = 6
 · rw [if_pos hp]
   cases hc : f.choice with
   | false =>
    rw [if_neg (by simp)]
    rw [hc] at h1 h2 h3 h4 h5 h6 h7 hsh
    exact ⟨⟨h1.mono (by omega), by show (tagF false s).ptrs + 1 ≤ _; omega, ⟨h3.1, by have := h3.2; show (tagF false s).tag < _; omega⟩, by show (tagF false s).many ≤ _; omega, by show (tagF false s).shared.length ≤ _; omega, hsh, ⟨h7.1, by have := h7.2; show (tagF false s).point < (((tagF false s).ptrs + 1 : Nat) : Int); omega⟩⟩, by show (tagF false s).ptrs ≤ _; omega⟩
   | true =>
    rw [if_pos rfl]
    rw [hc] at h1 h2 h3 h4 h5 h6 h7 hsh
    unfold sharePtrF
    by_cases hq : (tagF true s).point < 0
    · rw [if_pos hq]
      exact ⟨⟨h1.mono (by omega), by show (tagF true s).ptrs + 1 ≤ _; omega, ⟨h3.1, by have := h3.2; show (tagF true s).tag < _; omega⟩, by show (tagF true s).many ≤ _; omega, by show (tagF true s).shared.length ≤ _; omega, hsh, ⟨by show (-1 : Int) ≤ ((tagF true s).ptrs : Int); omega, by show ((tagF true s).ptrs : Int) < (((tagF true s).ptrs + 1 : Nat) : Int); omega⟩⟩, by show (tagF true s).ptrs ≤ _; omega⟩
    · rw [if_neg hq]
      exact ⟨⟨h1.mono (by omega), by dsimp only; omega, ⟨h3.1, by have := h3.2; dsimp only; omega⟩, by dsimp only; omega, by dsimp only; omega, hsh, h7⟩, by show (tagF true s).point.toNat ≤ _; omega⟩
 · rw [if_neg hp]
   cases hc : f.choice with
   | false =>
    rw [if_neg (by simp)]
    rw [hc] at h1 h2 h3 h4 h5 h6 h7 hsh hr hr7
    exact ⟨⟨hr.2, by show (tagF false s).ptrs ≤ _; omega, ⟨h3.1, by have := h3.2; show (tagF false s).tag < _; omega⟩, by show (tagF false s).many ≤ _; omega, by show (tagF false s).shared.length ≤ _; omega, hsh, h7⟩, by show (roomF _ _).1 ≤ _; omega⟩
   | true =>
    rw [if_pos rfl]
    rw [hc] at h1 h2 h3 h4 h5 h6 h7 hsh hr hr7
    unfold shareF
    cases hf : (tagF true s).shared.find? (fun r => r.1 ≤ kOf f.size) with
    | none =>
     refine ⟨⟨hr.2, by show (tagF true s).ptrs ≤ _; omega, ⟨h3.1, by have := h3.2; show (tagF true s).tag < _; omega⟩, by show (tagF true s).many ≤ _; omega, by show (_ ++ [_]).length ≤ _; simp; omega, ?_, h7⟩, by show (roomF _ _).1 ≤ _; omega⟩
     intro r hrm
     rcases List.mem_append.1 hrm with hrm | hrm
     · exact hsh r hrm
     · obtain rfl : r = (kOf f.size, (roomF (kOf f.size) (tagF true s).ls).1) := by simpa using hrm
       exact ⟨hk, Nat.lt_of_lt_of_le hr.1 (Nat.mul_le_mul_left _ (by omega))⟩
    | some r =>
     have hrm := List.mem_of_find?_eq_some hf
     have hrk : r.1 ≤ kOf f.size := by simpa using List.find?_some hf
     refine ⟨⟨h1.mono (by omega), by dsimp only; omega, ⟨h3.1, by have := h3.2; dsimp only; omega⟩, by dsimp only; omega, by dsimp only; omega, hsh, h7⟩, ?_⟩
     show r.2 * 2 ^ (kOf f.size - r.1) ≤ _
     have := shared_bd hrk hk (h6 r hrm).2
     omega
theorem lay_bd : ∀ (l : List Fld) {n : Nat} {s : PS}, PBd n s → PBd (n + l.length) (layF l s).2
 | [], _, _, h => h
 | f :: r, n, s, h => by
   have := lay_bd r (place_bd h f).1
   rw [show n + (f :: r).length = n + 1 + r.length by simp; omega]
   exact this
theorem lay_bd_at : ∀ (l : List Fld) {n : Nat} {s : PS}, PBd n s → n + l.length ≤ 13 → ∀ a ∈ (layF l s).1, a ≤ 2000
 | [], _, _, _, _ => fun _ h => by cases h
 | f :: r, n, s, h, hn => fun a ha => by
   have hp := place_bd h f
   simp at hn
   rcases List.mem_cons.1 ha with rfl | ha
   · have := hp.2; omega
   · exact lay_bd_at r hp.1 (by omega) a ha
open Go.RowKit
structure FldAt (w : World) (p : Addr) (f : Fld) : Prop where
 c0 : w.cell? p = some (.int .i64 f.size)
 c1 : w.cell? ⟨p.block, p.off + 1, none⟩ = some (.bool f.choice)
 c2 : w.cell? ⟨p.block, p.off + 2, none⟩ = some (.int .i64 f.els)
def Flds (w : World) (A : Option Addr) (l : List Fld) : Prop :=
 l = [] ∨ ∃ x, A = some x ∧ x.block < w.heap.size ∧ ∀ k f, l[k]? = some f → FldAt w (x.add (k * 3)) f
theorem FldAt.below {B : Nat} {w w' : World} {p : Addr} {f : Fld} (h : FldAt w p f) (hb : Below B w w') (hp : p.block < B) : FldAt w' p f :=
 ⟨(hb.cell (p := p) hp).trans h.c0, (hb.cell (p := ⟨p.block, p.off + 1, none⟩) hp).trans h.c1, (hb.cell (p := ⟨p.block, p.off + 2, none⟩) hp).trans h.c2⟩
theorem Flds.below {w w' : World} {A : Option Addr} {l : List Fld} (h : Flds w A l) (hb : Below w.heap.size w w') : Flds w' A l := by
 rcases h with h | ⟨x, rfl, hx, hc⟩
 · exact .inl h
 · exact .inr ⟨x, rfl, Nat.lt_of_lt_of_le hx hb.size, fun k f hk => (hc k f hk).below hb (by rw [addr_block]; exact hx)⟩
theorem Flds.at_ {w : World} {A : Option Addr} {l : List Fld} (h : Flds w A l) {k : Nat} (hk : k < l.length) : ∃ x, A = some x ∧ FldAt w (x.add (k * 3)) l[k] := by
 rcases h with h | ⟨x, rfl, hx, hc⟩
 · rw [h] at hk; exact absurd hk (Nat.not_lt_zero _)
 · exact ⟨x, rfl, hc k _ (List.getElem?_eq_getElem hk)⟩
def fitB (size n : Int) : Bool := if size = 6 then n == 0 else if size = 5 then true else decide (0 ≤ n ∧ n ≤ 2 ^ (bitsOf size).toNat - 1)
def fldOk (f : Fld) : Bool := inB f.size 1 6 && fitB f.size f.els
def fldsOk (l : List Fld) : Bool := l.all fldOk && decide (l.length ≤ 12)
def withB (n b : Int) : Bool := decide (0 ≤ n ∧ n < b)
theorem within_any (n b : Int) (w : World) :
 Calls Tryz.prog 36 #[.int .i64 n, .int .i64 b] w fun e w' => e = .returned (.bool (withB n b)) ∧ w = w' := by
 by_cases h1 : 0 ≤ n
 all_goals
  go_enter Tryz.func36, Tryz.ntmps36
  go_wp2
  all_goals go_ret
  all_goals refine ⟨ret_bool ?_, rfl⟩
  all_goals (simp [withB]; try omega)
def bitsAll (n : Int) : Int := if n = 6 then 64 else bitsOf n
theorem sizeBits_any (n : Int) (w : World) (h0 : 0 ≤ n) (h1 : n ≤ 6) :
 Calls Tryz.prog 117 #[.int .i64 n] w fun e w' => e = .returned (.int .i64 (bitsAll n)) ∧ w = w' := by
 have h : n = 0 ∨ n = 1 ∨ n = 2 ∨ n = 3 ∨ n = 4 ∨ n = 5 ∨ n = 6 := by omega
 rcases h with rfl | rfl | rfl | rfl | rfl | rfl | rfl
 all_goals
  go_enter Tryz.func117, Tryz.ntmps117
  go_wp2
  go_ret
  exact ⟨ret_int (by decide), rfl⟩
theorem l2Bits_any (n : Int) (w : World) (h0 : 0 ≤ n) (h1 : n ≤ 6) :
 Calls Tryz.prog 62 #[.int .i64 n] w fun e w' => e = .returned (.int .i64 (bitsAll n)) ∧ Below w.heap.size w w' := by
 have h : n = 0 ∨ n = 1 ∨ n = 2 ∨ n = 3 ∨ n = 4 ∨ n = 5 ∨ n = 6 := by omega
 rcases h with rfl | rfl | rfl | rfl | rfl | rfl | rfl
 all_goals
  go_enter Tryz.func62, Tryz.ntmps62
  go_wp2
  go_ret
  exact ⟨ret_int (by decide), (Below.refl _ _).alloc (Nat.le_refl _) _⟩
theorem fit_in (a n b : Int) (h : b = 2 ^ (bitsOf a).toNat - 1) (h6 : a ≠ 6) (h5 : a ≠ 5) : inB n 0 b = fitB a n := by
 unfold inB fitB
 rw [if_neg h6, if_neg h5, h]
theorem fit_with (a n b : Int) (h : b = 2 ^ (bitsOf a).toNat) (h6 : a ≠ 6) (h5 : a ≠ 5) : withB n b = fitB a n := by
 unfold withB fitB
 rw [if_neg h6, if_neg h5, h, Bool.eq_iff_iff]
 simp only [decide_eq_true_eq]
 omega
theorem l7Fits_any (a n : Int) (w : World) (h0 : 1 ≤ a) (h1 : a ≤ 6) :
 Calls Tryz.prog 68 #[.int .i64 a, .int .i64 n] w fun e w' => e = .returned (.bool (fitB a n)) ∧ Below w.heap.size w w' := by
 have h : a = 6 ∨ a = 5 ∨ a = 1 ∨ a = 2 ∨ a = 3 ∨ a = 4 := by omega
 rcases h with rfl | rfl | h
 · go_enter Tryz.func68, Tryz.ntmps68
   go_wp2
   go_ret
   exact ⟨ret_bool rfl, Below.refl _ _⟩
 · go_enter Tryz.func68, Tryz.ntmps68
   go_wp2
   go_ret
   exact ⟨ret_bool rfl, Below.refl _ _⟩
 · rcases h with rfl | rfl | rfl | rfl
   all_goals
    go_enter Tryz.func68, Tryz.ntmps68
    go_wp2_with (first | (go_at_call 62; go_must (refine (l2Bits_any _ _ (by decide) (by decide)).mono ?_); rintro e w1 ⟨rfl, hb1⟩; simp only [show bitsAll 1 = 1 from rfl, show bitsAll 2 = 8 from rfl, show bitsAll 3 = 16 from rfl, show bitsAll 4 = 32 from rfl]) | (go_at_call 27; go_must (refine (l1In_any _ _ _ _).mono ?_); rintro e w2 ⟨rfl, rfl⟩))
    go_ret
    exact ⟨ret_bool (fit_in _ _ _ (by decide) (by decide) (by decide)), hb1⟩
theorem fitsSize_any (a n : Int) (w : World) (h0 : 1 ≤ a) (h1 : a ≤ 6) :
 Calls Tryz.prog 93 #[.int .i64 n, .int .i64 a] w fun e w' => e = .returned (.bool (fitB a n)) ∧ w = w' := by
 have h : a = 6 ∨ a = 5 ∨ a = 1 ∨ a = 2 ∨ a = 3 ∨ a = 4 := by omega
 rcases h with rfl | rfl | h
 · go_enter Tryz.func93, Tryz.ntmps93
   go_wp2
   go_ret
   exact ⟨ret_bool rfl, rfl⟩
 · go_enter Tryz.func93, Tryz.ntmps93
   go_wp2
   go_ret
   exact ⟨ret_bool rfl, rfl⟩
 · rcases h with rfl | rfl | rfl | rfl
   all_goals
    go_enter Tryz.func93, Tryz.ntmps93
    go_wp2_with (first | (go_at_call 117; go_must (refine (sizeBits_any _ _ (by decide) (by decide)).mono ?_); rintro e w1 ⟨rfl, rfl⟩; simp only [show bitsAll 1 = 1 from rfl, show bitsAll 2 = 8 from rfl, show bitsAll 3 = 16 from rfl, show bitsAll 4 = 32 from rfl]) | (go_at_call 36; go_must (refine (within_any _ _ _).mono ?_); rintro e w2 ⟨rfl, rfl⟩))
    go_ret
    exact ⟨ret_bool (fit_with _ _ _ (by decide) (by decide) (by decide)), rfl⟩
theorem all_take_succ (l : List Fld) (k : Nat) (h : k < l.length) : (l.take (k + 1)).all fldOk = ((l.take k).all fldOk && fldOk l[k]) := by
 rw [List.take_succ_eq_append_getElem h, List.all_append]; simp
theorem all_false_of (l : List Fld) (k : Nat) (h : k < l.length) (hf : fldOk l[k] = false) : l.all fldOk = false := by
 rw [List.all_eq_false]
 exact ⟨l[k], List.getElem_mem h, by simp [hf]⟩
theorem fld_false1 {f : Fld} (h : inB f.size 1 6 = false) : fldOk f = false := by simp [fldOk, h]
theorem fld_false2 {f : Fld} (h : fitB f.size f.els = false) : fldOk f = false := by simp [fldOk, h]
theorem fld_true {f : Fld} (h : inB f.size 1 6 = true) (h2 : fitB f.size f.els = true) : fldOk f = true := by simp [fldOk, h, h2]
theorem flds_false {l : List Fld} (h : l.all fldOk = false) : fldsOk l = false := by simp [fldsOk, h]
theorem inB_out {n a b : Int} (h : inB n a b = true) : a ≤ n ∧ n ≤ b := by simpa [inB] using h
theorem specFieldsOk_any (A : Option Addr) (c : Nat) (l : List Fld) (w : World) (h : Flds w A l) (hl : l.length ≤ 10000000) :
 Calls Tryz.prog 46 #[.slice A l.length c] w fun e w' => e = .returned (.bool (fldsOk l)) ∧ Below w.heap.size w w' := by
 have HF := Lib.hid h
 clear h
 go_enter Tryz.func46, Tryz.ntmps46
 go_wp2
 go_loopw [3] (fun i wr => ∃ k : Nat, i = .int .i64 k ∧ k ≤ l.length ∧ Hid ((l.take k).all fldOk = true) ∧ Hid (Below w.heap.size w wr)) (fun i _ => l.length - (intOf i).toNat)
 case atStart => exact ⟨0, rfl, by omega, by exact Lib.hid rfl, by exact Lib.hid (Below.refl _ _)⟩
 case round =>
  obtain ⟨k, rfl, hk, HA, HB⟩ := hrel
  by_cases hlt : k < l.length
  · obtain ⟨x, rfl, hx⟩ := (HF.out.below HB.out).at_ hlt
    have HS := Lib.hid (all_take_succ l k hlt)
    have HFF := Lib.hid (all_false_of l k hlt)
    generalize l[k] = f at hx HS HFF
    obtain ⟨fs, fc, fe⟩ := f
    obtain ⟨c0, c1, c2⟩ := hx
    cases hs : inB fs 1 6 with
    | false =>
     have HX := Lib.hid (HFF.out (fld_false1 hs))
     go_wp2_with (go_at_call 27; go_must (refine (l1In_any _ _ _ _).mono ?_); rintro e w2 ⟨rfl, rfl⟩)
     go_ret
     exact ⟨ret_bool (flds_false HX.out).symm, HB.out.alloc HB.out.size _⟩
    | true =>
     have hs2 := inB_out hs
     cases hf : fitB fs fe with
     | false =>
      have HX := Lib.hid (HFF.out (fld_false2 hf))
      go_wp2_with (first | (go_at_call 27; go_must (refine (l1In_any _ _ _ _).mono ?_); rintro e w2 ⟨rfl, rfl⟩) | (go_at_call 68; go_must (refine (l7Fits_any _ _ _ hs2.1 hs2.2).mono ?_); rintro e w3 ⟨rfl, hb3⟩))
      go_ret
      exact ⟨ret_bool (flds_false HX.out).symm, (HB.out.alloc HB.out.size _).trans (hb3.mono (by have := HB.out.size; simp; omega))⟩
     | true =>
      have HX : Hid ((l.take (k + 1)).all fldOk = true) := by
       refine Lib.hid ?_
       rw [HS.out, HA.out, fld_true (f := ⟨fs, fc, fe⟩) hs hf]; rfl
      go_wp2_with (first | (go_at_call 27; go_must (refine (l1In_any _ _ _ _).mono ?_); rintro e w2 ⟨rfl, rfl⟩) | (go_at_call 68; go_must (refine (l7Fits_any _ _ _ hs2.1 hs2.2).mono ?_); rintro e w3 ⟨rfl, hb3⟩))
      go_roundw
      case rel => exact ⟨k + 1, by go_num, by omega, HX, Lib.hid ((HB.out.alloc HB.out.size _).trans (hb3.mono (by have := HB.out.size; simp; omega)))⟩
      case measure => simp [intOf]; omega
  · obtain rfl : k = l.length := by omega
    have HT : Hid (l.all fldOk = true) := by refine Lib.hid ?_; rw [← HA.out, List.take_of_length_le (Nat.le_refl _)]
    have HE : Hid (fldsOk l = decide ((l.length : Int) ≤ 12)) := by
     refine Lib.hid ?_
     unfold fldsOk
     rw [HT.out, Bool.true_and, Bool.eq_iff_iff]
     simp only [decide_eq_true_eq]
     omega
    go_wp2
    go_ret
    exact ⟨ret_bool HE.out.symm, HB.out⟩
theorem implFieldsOk_any (A : Option Addr) (c : Nat) (l : List Fld) (w : World) (h : Flds w A l) (hl : l.length ≤ 10000000) :
 Calls Tryz.prog 82 #[.slice A l.length c] w fun e w' => e = .returned (.bool (fldsOk l)) ∧ Below w.heap.size w w' := by
 have HF := Lib.hid h
 clear h
 by_cases h12 : 12 < l.length
 · have HX : Hid (fldsOk l = false) := by refine Lib.hid ?_; unfold fldsOk; rw [show decide (l.length ≤ 12) = false by simp; omega, Bool.and_false]
   go_enter Tryz.func82, Tryz.ntmps82
   go_wp2
   go_ret
   exact ⟨ret_bool HX.out.symm, Below.refl _ _⟩
 have hl12 : l.length ≤ 12 := by omega
 go_enter Tryz.func82, Tryz.ntmps82
 go_wp2
 go_loopw [10] (fun i wr => ∃ k : Nat, i = .int .i64 k ∧ k ≤ l.length ∧ Hid ((l.take k).all fldOk = true) ∧ Hid (Below w.heap.size w wr)) (fun i _ => l.length - (intOf i).toNat)
 case atStart => exact ⟨0, rfl, by omega, by exact Lib.hid rfl, by exact Lib.hid (Below.refl _ _)⟩
 case round =>
  obtain ⟨k, rfl, hk, HA, HB⟩ := hrel
  by_cases hlt : k < l.length
  · obtain ⟨x, rfl, hx⟩ := (HF.out.below HB.out).at_ hlt
    have HS := Lib.hid (all_take_succ l k hlt)
    have HFF := Lib.hid (all_false_of l k hlt)
    generalize l[k] = f at hx HS HFF
    obtain ⟨fs, fc, fe⟩ := f
    obtain ⟨c0, c1, c2⟩ := hx
    by_cases hs1 : fs < 1
    · have HX := Lib.hid (HFF.out (fld_false1 (by simp [inB]; omega)))
      go_wp2
      go_ret
      exact ⟨ret_bool (flds_false HX.out).symm, HB.out.alloc HB.out.size _⟩
    have hs1' : 1 ≤ fs := by omega
    by_cases hs6 : 6 < fs
    · have HX := Lib.hid (HFF.out (fld_false1 (by simp [inB]; omega)))
      go_wp2
      go_ret
      exact ⟨ret_bool (flds_false HX.out).symm, HB.out.alloc HB.out.size _⟩
    have hs6' : fs ≤ 6 := by omega
    clear hs1 hs6
    cases hf : fitB fs fe with
    | false =>
     have HX := Lib.hid (HFF.out (fld_false2 hf))
     go_wp2_with (go_at_call 93; go_must (refine (fitsSize_any _ _ _ hs1' hs6').mono ?_); rintro e w3 ⟨rfl, rfl⟩)
     go_ret
     exact ⟨ret_bool (flds_false HX.out).symm, HB.out.alloc HB.out.size _⟩
    | true =>
     have HX : Hid ((l.take (k + 1)).all fldOk = true) := by
      refine Lib.hid ?_
      rw [HS.out, HA.out, fld_true (f := ⟨fs, fc, fe⟩) (by simp [inB]; omega) hf]; rfl
     go_wp2_with (go_at_call 93; go_must (refine (fitsSize_any _ _ _ hs1' hs6').mono ?_); rintro e w3 ⟨rfl, rfl⟩)
     go_roundw
     case rel => exact ⟨k + 1, by go_num, by omega, HX, Lib.hid (HB.out.alloc HB.out.size _)⟩
     case measure => simp [intOf]; omega
  · obtain rfl : k = l.length := by omega
    have HE : Hid (fldsOk l = true) := by
     refine Lib.hid ?_
     unfold fldsOk
     rw [List.take_of_length_le (Nat.le_refl _)] at HA
     rw [HA.out, Bool.true_and]
     simpa using hl12
    go_wp2
    go_ret
    exact ⟨ret_bool HE.out.symm, HB.out⟩
end Go.Proofs.YtehhbbdaeonebaaGreatDoor
