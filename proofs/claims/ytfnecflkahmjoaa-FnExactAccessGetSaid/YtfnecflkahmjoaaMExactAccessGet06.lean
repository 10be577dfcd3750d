/- Texts of the proof of the law FnExactAccessGet, side by side: part 6. -/
import Derived.Test.YtfnecflkahmjoaaMExactAccessGet05
set_option maxHeartbeats 8000000
set_option maxRecDepth 100000
namespace Go.Proofs.Ytfnecflkahmjoaa
open Go.RowKit Go.Deep
def MkS (m : Nat) : Prop := ∀ (A : Option Addr) (c : Nat) (l : List Nd) (bs : List Nat) (w : World) (q : Nat), OwS w m A c l bs → bs.Nodup → 1 ≤ q → q + 4 * sizL l ≤ 100000000 →
 Calls Try.prog 31 #[.slice A l.length c, .int .i64 (q : Int)] w fun e w' => ∃ (l' : List Nd) (q' : Nat), e = .returned (.int .i64 (q' : Int)) ∧ q ≤ q' ∧ q' ≤ q + 4 * sizL l ∧ l'.length = l.length ∧ OwS w' m A c l' bs ∧ HelS m l' q q' ∧ OnlyIn bs w w'
def MkR (l : List Nd) (g c j : Nat) (bs : List Nat) (q k qq : Nat) (wr : World) : Prop :=
 ∃ pre post : List NB, pre.length = k ∧ post.map (·.1) = l.drop k ∧ RowG wr g c (pre ++ post) j ∧ bs = g :: blkB (pre ++ post) ∧ HelS (j + 1) (pre.map (·.1)) q qq ∧ q ≤ qq ∧ qq ≤ q + 4 * sizL (l.take k)
theorem cellE_ne {a b : Nd × Hd} (e : Nat) (h0 : e ≠ 0 → a.1.kind = b.1.kind) (h1 : e ≠ 1 → a.1.data = b.1.data) (h2 : a.1.ptrs = b.1.ptrs) (h3 : e ≠ 3 → a.1.size = b.1.size) (h4 : e ≠ 4 → a.1.count = b.1.count) (h5 : a.1.items = b.1.items) (hh : a.2 = b.2) : ∀ f, f < 6 → f ≠ e → cellE a f = cellE b f := by
 obtain ⟨a, x⟩ := a
 obtain ⟨b, y⟩ := b
 dsimp only at h0 h1 h2 h3 h4 h5 hh
 subst hh
 intro f hf hne
 match f, hf with
 | 0, _ => show Value.int .i64 a.kind = .int .i64 b.kind; rw [h0 (fun h => hne h.symm)]
 | 1, _ => show Value.string a.data = .string b.data; rw [h1 (fun h => hne h.symm)]
 | 2, _ => show Value.slice x.A a.ptrs.length x.a = .slice x.A b.ptrs.length x.a; rw [h2]
 | 3, _ => show Value.int .i64 a.size = .int .i64 b.size; rw [h3 (fun h => hne h.symm)]
 | 4, _ => show Value.int .i64 a.count = .int .i64 b.count; rw [h4 (fun h => hne h.symm)]
 | 5, _ => show Value.slice x.B a.items.length x.b = .slice x.B b.items.length x.b; rw [h5]
theorem RowG.dsize {w : World} {M g c : Nat} {pre post : List NB} {r : NB} (h : RowG w g c (pre ++ r :: post) M) : r.1.data.size ≤ maxLen := by
 obtain ⟨_, _, _, _, _, _, h6, _⟩ := h
 exact (h6 r (List.mem_append_right _ List.mem_cons_self)).1
theorem RowG.capl {w : World} {M g c : Nat} {q : List NB} (h : RowG w g c q M) : q.length ≤ c := by
 obtain ⟨_, _, _, h3, _⟩ := h
 exact h3
theorem mkS_of (m : Nat) (IH : ∀ j, m = j + 1 → MkS j) : MkS m := by
 intro A c l bs w q ho hnd h1 h2
 have hlm : l.length ≤ 100000000 := by have := sizL_len l; omega
 by_cases hl : l = []
 · subst hl
   have HO := Lib.hid ho
   clear ho hnd
   go_enter Try.func31, Try.ntmps31
   go_wp2_with fail
   refine wp_loop_rounds 1 ?_
   rw [rounds_succ]
   go_wp2
   go_ret
   exact ⟨[], q, rfl, Nat.le_refl _, by omega, rfl, HO.out, (helS_nil _ _ _).2 rfl, OnlyIn.refl _ _⟩
 rcases own_cap ho with ⟨_, h, _⟩ | ⟨⟨g, rfl⟩, hlc⟩
 · exact absurd h hl
 obtain ⟨j, rfl⟩ : ∃ j, m = j + 1 := by
  cases m with
  | zero => exact absurd ho.1 hl
  | succ j => exact ⟨j, rfl⟩
 have HIH := Lib.hid (IH j rfl)
 obtain ⟨q0, hq0, hb0, hg0⟩ := ho.rowG hnd
 have HR0 : Hid (MkR l g c j bs q 0 q w) := Lib.hid ⟨[], q0, rfl, hq0, hg0, hb0, (helS_nil _ _ _).2 rfl, Nat.le_refl _, by omega⟩
 have HND := Lib.hid hnd
 clear ho hnd IH hq0 hb0 hg0 hl
 go_enter Try.func31, Try.ntmps31
 go_wp2_with fail
 go_loopw [1, 5] (fun u i wr => ∃ (k qq : Nat), u = .int .i64 (qq : Int) ∧ i = .int .i64 k ∧ k ≤ l.length ∧ Hid (MkR l g c j bs q k qq wr) ∧ Hid (OnlyIn bs w wr)) (fun _ i _ => l.length - (intOf i).toNat)
 case atStart => exact ⟨0, q, rfl, rfl, by omega, HR0, Lib.hid (OnlyIn.refl _ _)⟩
 case round =>
  clear HR0
  obtain ⟨k, qq, rfl, rfl, hk, HR, HOI⟩ := hrel
  obtain ⟨pre, post, hpk, hpost, hg, hbs, hhel, hqa, hqb⟩ := HR.out
  by_cases hlt : k < l.length
  · subst hpk
    have hdrop : l.drop pre.length = l[pre.length] :: l.drop (pre.length + 1) := List.drop_eq_getElem_cons hlt
    rw [hdrop] at hpost
    cases post with
    | nil =>
     simp at hpost
     omega
    | cons r t =>
     rw [List.map_cons] at hpost
     injection hpost with e1 e2
     obtain ⟨y, hd, bsy⟩ := r
     dsimp only at e1
     have hsz : sizL (l.take (pre.length + 1)) = sizL (l.take pre.length) + (1 + sizN y) := by rw [List.take_succ_eq_append_getElem hlt, sizL_app, sizL, sizL_nil, ← e1]; omega
     have htl := sizL_take l (pre.length + 1)
     have hyz := sizN_eq y
     clear hdrop e1
     have hcap := hg.capl
     rw [List.length_append, List.length_cons] at hcap
     obtain ⟨d0, d1, d2, d3, d4, d5, df⟩ := hg.cells
     have hd0 := df (pre.length * 6)
     have hg1 : RowG (wr.setCell ⟨g, pre.length * 6, none⟩ (.int .i64 (qq : Int))) g c (pre ++ ((.mk (qq : Int) y.data y.ptrs y.size y.count y.items : Nd), hd, bsy) :: t) j := hg.set (n' := .mk (qq : Int) y.data y.ptrs y.size y.count y.items) 0 (.int .i64 (qq : Int)) (by decide) rfl (cellE_ne 0 (fun h => absurd rfl h) (fun _ => rfl) rfl (fun _ => rfl) (fun _ => rfl) rfl rfl) rfl rfl hg.dsize
     have hgb : g ∈ bs := by rw [hbs]; exact List.mem_cons_self
     have ho1 := HOI.out.trans (OnlyIn.setCell (p := ⟨g, pre.length * 6, none⟩) hgb (.int .i64 (qq : Int)))
     have hw1 : IntKind.i64.wrap ((qq : Int) + 1) = (qq : Int) + 1 := by rw [IntKind.wrap_i64]; omega
     have hw2 : IntKind.i64.wrap ((qq : Int) + 1 + 1) = (qq : Int) + 1 + 1 := by rw [IntKind.wrap_i64]; omega
     have HG1 := Lib.hid hg1
     have HO1 := Lib.hid ho1
     have HE2 := Lib.hid (And.intro e2 (And.intro hhel hbs))
     clear hg hg1 ho1 df e2 hhel hbs HR HOI d1 d2 d3 d4 d5
     have d0' : wr.cell? ⟨g, pre.length * 6, none⟩ = some (.int .i64 y.kind) := d0
     clear d0
     go_wp2_with fail
     generalize wr.setCell ⟨g, pre.length * 6, none⟩ (.int .i64 (qq : Int)) = W1 at *
     clear d0' hd0
     refine (markText_any (qq + 1) _ (by omega) (by omega)).mono ?_
     rintro e W2 ⟨rfl, hb2⟩
     have hmb : (markB (qq + 1)).size ≤ maxLen := by have := markB_size (qq + 1); unfold maxLen; omega
     obtain ⟨mk, hmk⟩ : ∃ mk, mk = markB (qq + 1) := ⟨_, rfl⟩
     rw [← hmk] at hmb
     rw [← hmk]
     have HMK := Lib.hid hmk
     have hg2 := HG1.out.below hb2
     have ho2 := HO1.out.trans (OnlyIn.of_below hb2)
     obtain ⟨d0, d1, d2, d3, d4, d5, df⟩ := hg2.cells
     have hd1 := df (pre.length * 6 + 1)
     have hg3 : RowG (W2.setCell ⟨g, pre.length * 6 + 1, none⟩ (.string mk)) g c (pre ++ ((.mk (qq : Int) mk y.ptrs y.size y.count y.items : Nd), hd, bsy) :: t) j := hg2.set (n' := .mk (qq : Int) mk y.ptrs y.size y.count y.items) 1 (.string mk) (by decide) rfl (cellE_ne 1 (fun _ => rfl) (fun h => absurd rfl h) rfl (fun _ => rfl) (fun _ => rfl) rfl rfl) rfl rfl hmb
     have ho3 := ho2.trans (OnlyIn.setCell (p := ⟨g, pre.length * 6 + 1, none⟩) hgb (.string mk))
     obtain ⟨f0, f1, f2, f3, f4, f5, ff⟩ := hg3.cells
     have f2' : (W2.setCell ⟨g, pre.length * 6 + 1, none⟩ (.string mk)).cell? ⟨g, pre.length * 6 + 2, none⟩ = some (.slice hd.A y.ptrs.length hd.a) := f2
     have HG3 := Lib.hid hg3
     have HO3 := Lib.hid ho3
     obtain ⟨b1, b2, hbb, ls1, ls2, nd1, nd2, ng1, ng2⟩ := hg3.lists
     have HC1 := Lib.hid (HIH.out hd.A hd.a y.ptrs b1 _ (qq + 2) ls1 nd1 (by omega) (by omega))
     have HL2 := Lib.hid (And.intro ls2 (And.intro nd1 nd2))
     have HBB := Lib.hid hbb
     have d1' : W2.cell? ⟨g, pre.length * 6 + 1, none⟩ = some (.string y.data) := d1
     clear hg2 ho2 hg3 ho3 hb2 HG1 HO1 d0 d1 d2 d3 d4 d5 df f0 f1 f2 f3 f4 f5 ff ls1 ls2 nd1 nd2 ng1 ng2 hbb hmk hmb
     go_wp2_with fail
     generalize W2.setCell ⟨g, pre.length * 6 + 1, none⟩ (.string mk) = W3 at *
     clear d1' hd1 f2'
     refine HC1.out.mono ?_
     rintro e W4 ⟨p', q1, rfl, hq1a, hq1b, hlp, hop, hhp, hoi⟩
     have hdis := (List.nodup_append.1 (show (b1 ++ b2).Nodup by
      have h := HND.out
      rw [HE2.out.2.2, blkB_app, blkB_cons] at h
      have h' := (List.nodup_append.1 (List.nodup_append.1 (List.nodup_cons.1 h).2).2.1).1
      rw [← HBB.out]
      exact h')).2.2
     have hi4 := HL2.out.1.frame (w' := W4) _ _ _ _ _ (fun b hb => hoi.block b (HL2.out.1.lt _ _ _ _ _ b hb).1 (fun hm => hdis b hm b hb rfl))
     have hg4 : RowG W4 g c (pre ++ ((.mk (qq : Int) mk p' y.size y.count y.items : Nd), hd, bsy) :: t) j := HG3.out.relist HBB.out (.inl rfl) hoi hop hi4 hlp rfl
     have ho4 := HO3.out.trans (hoi.mono (fun b hb => .inl (by
      rw [HE2.out.2.2, blkB_app, blkB_cons]
      refine List.mem_cons_of_mem _ (List.mem_append_right _ (List.mem_append_left _ ?_))
      show b ∈ bsy
      rw [show bsy = b1 ++ b2 from HBB.out]
      exact List.mem_append_left _ hb)))
     obtain ⟨d0, d1, d2, d3, d4, d5, df⟩ := hg4.cells
     have hd3 := df (pre.length * 6 + 3)
     have hg5 : RowG (W4.setCell ⟨g, pre.length * 6 + 3, none⟩ (.int .i64 (q1 : Int))) g c (pre ++ ((.mk (qq : Int) mk p' (q1 : Int) y.count y.items : Nd), hd, bsy) :: t) j := hg4.set (n' := .mk (qq : Int) mk p' (q1 : Int) y.count y.items) 3 (.int .i64 (q1 : Int)) (by decide) rfl (cellE_ne 3 (fun _ => rfl) (fun _ => rfl) rfl (fun h => absurd rfl h) (fun _ => rfl) rfl rfl) rfl rfl hg4.dsize
     obtain ⟨f0, f1, f2, f3, f4, f5, ff⟩ := hg5.cells
     have hf4 := ff (pre.length * 6 + 4)
     have hg6 : RowG ((W4.setCell ⟨g, pre.length * 6 + 3, none⟩ (.int .i64 (q1 : Int))).setCell ⟨g, pre.length * 6 + 4, none⟩ (.int .i64 ((q1 : Int) + 1))) g c (pre ++ ((.mk (qq : Int) mk p' (q1 : Int) ((q1 : Int) + 1) y.items : Nd), hd, bsy) :: t) j := hg5.set (n' := .mk (qq : Int) mk p' (q1 : Int) ((q1 : Int) + 1) y.items) 4 (.int .i64 ((q1 : Int) + 1)) (by decide) rfl (cellE_ne 4 (fun _ => rfl) (fun _ => rfl) rfl (fun _ => rfl) (fun h => absurd rfl h) rfl rfl) rfl rfl hg5.dsize
     have ho6 := (ho4.trans (OnlyIn.setCell (p := ⟨g, pre.length * 6 + 3, none⟩) hgb (.int .i64 (q1 : Int)))).trans (OnlyIn.setCell (p := ⟨g, pre.length * 6 + 4, none⟩) hgb (.int .i64 ((q1 : Int) + 1)))
     obtain ⟨g0, g1, g2, g3, g4, g5, gf⟩ := hg6.cells
     have g5' : ((W4.setCell ⟨g, pre.length * 6 + 3, none⟩ (.int .i64 (q1 : Int))).setCell ⟨g, pre.length * 6 + 4, none⟩ (.int .i64 ((q1 : Int) + 1))).cell? ⟨g, pre.length * 6 + 5, none⟩ = some (.slice hd.B y.items.length hd.b) := g5
     have f4' : (W4.setCell ⟨g, pre.length * 6 + 3, none⟩ (.int .i64 (q1 : Int))).cell? ⟨g, pre.length * 6 + 4, none⟩ = some (.int .i64 y.count) := f4
     have d3' : W4.cell? ⟨g, pre.length * 6 + 3, none⟩ = some (.int .i64 y.size) := d3
     have hw3 : IntKind.i64.wrap ((q1 : Int) + 1) = (q1 : Int) + 1 := by rw [IntKind.wrap_i64]; omega
     have hw4 : IntKind.i64.wrap ((q1 : Int) + 1 + 1) = (q1 : Int) + 1 + 1 := by rw [IntKind.wrap_i64]; omega
     have HG6 := Lib.hid hg6
     have HO6 := Lib.hid ho6
     obtain ⟨c1, c2, hcc, ls1, ls2, nd1, nd2, ng1, ng2⟩ := hg6.lists
     have HC2 := Lib.hid (HIH.out hd.B hd.b y.items c2 _ (q1 + 2) ls2 nd2 (by omega) (by omega))
     have HL1 := Lib.hid ls1
     have HCC := Lib.hid hcc
     have HHP := Lib.hid (And.intro hhp hlp)
     clear hg4 ho4 hg5 hg6 ho6 hi4 hop hhp hoi hdis HG3 HO3 HC1 HL2 d0 d1 d2 d3 d4 d5 df f0 f1 f2 f3 f4 f5 ff g0 g1 g2 g3 g4 g5 gf ls1 ls2 nd1 nd2 ng1 ng2 hcc hw1 hw2 hlp
     go_wp2_with fail
     generalize (W4.setCell ⟨g, pre.length * 6 + 3, none⟩ (.int .i64 (q1 : Int))).setCell ⟨g, pre.length * 6 + 4, none⟩ (.int .i64 ((q1 : Int) + 1)) = W6 at *
     clear d3' hd3 f4' hf4 g5'
     refine HC2.out.mono ?_
     rintro e W7 ⟨i', q2, rfl, hq2a, hq2b, hli, hoi2, hhi, hoj⟩
     have hdis := (List.nodup_append.1 (show (c1 ++ c2).Nodup by
      have h := HND.out
      rw [HE2.out.2.2, blkB_app, blkB_cons] at h
      have h' := (List.nodup_append.1 (List.nodup_append.1 (List.nodup_cons.1 h).2).2.1).1
      rw [← HCC.out]
      exact h')).2.2
     have hp7 := HL1.out.frame (w' := W7) _ _ _ _ _ (fun b hb => hoj.block b (HL1.out.lt _ _ _ _ _ b hb).1 (fun hm => hdis b hb b hm rfl))
     have hg7 : RowG W7 g c (pre ++ ((.mk (qq : Int) mk p' (q1 : Int) ((q1 : Int) + 1) i' : Nd), hd, bsy) :: t) j := HG6.out.relist HCC.out (.inr rfl) hoj hp7 hoi2 rfl hli
     have HOI7 := Lib.hid (HO6.out.trans (hoj.mono (fun b hb => .inl (by
      rw [HE2.out.2.2, blkB_app, blkB_cons]
      refine List.mem_cons_of_mem _ (List.mem_append_right _ (List.mem_append_left _ ?_))
      show b ∈ bsy
      rw [show bsy = c1 ++ c2 from HCC.out]
      exact List.mem_append_right _ hb))))
     have HR7 : Hid (MkR l g c j bs q (pre.length + 1) q2 W7) := Lib.hid ⟨pre ++ [((.mk (qq : Int) mk p' (q1 : Int) ((q1 : Int) + 1) i' : Nd), hd, bsy)], t, by simp, HE2.out.1, by rw [List.append_assoc]; exact hg7, by
      rw [List.append_assoc, List.singleton_append, HE2.out.2.2, blkB_app, blkB_app, blkB_cons, blkB_cons], by
      rw [List.map_append]
      exact (helS_app _ _ _ _ _).2 ⟨qq, HE2.out.2.1, (helS_one _ _ _ _).2 ⟨q1, rfl, HMK.out, HHP.out.1, rfl, rfl, hhi⟩⟩, by omega, by omega⟩
     clear hg7 hp7 hdis hoi2 hhi hoj hw3 hw4 HC2 HL1 HG6 HO6
     go_wp2
     go_roundw
     case rel => exact ⟨pre.length + 1, q2, rfl, by go_num, by omega, HR7, HOI7⟩
     case measure => simp [intOf]; omega
  · obtain rfl : k = l.length := by omega
    rw [List.drop_length] at hpost
    obtain rfl : post = [] := List.map_eq_nil_iff.1 hpost
    rw [List.append_nil] at hg hbs
    obtain ⟨o1, o2⟩ := hg.own
    rw [List.take_of_length_le (Nat.le_refl _)] at hqb
    have HFIN : Hid (∃ (l' : List Nd) (q' : Nat), Ending.returned (.int .i64 (qq : Int)) = .returned (.int .i64 (q' : Int)) ∧ q ≤ q' ∧ q' ≤ q + 4 * sizL l ∧ l'.length = l.length ∧ OwS wr (j + 1) (some ⟨g, 0, none⟩) c l' bs ∧ HelS (j + 1) l' q q' ∧ OnlyIn bs w wr) := Lib.hid ⟨pre.map (·.1), qq, rfl, hqa, hqb, by rw [List.length_map, hpk], by rw [hbs]; exact o1, hhel, HOI.out⟩
    clear hpk hpost hg hbs hhel hqa hqb HR HOI o1 o2
    go_wp2
    go_ret
    exact HFIN.out
theorem mkS_any : ∀ m, MkS m
 | 0 => mkS_of 0 (fun j h => by cases h)
 | m + 1 => mkS_of (m + 1) (fun j h => by obtain rfl : m = j := by omega
                                          exact mkS_any m)
theorem helS_len : ∀ (m : Nat) (l : List Nd) (q q' : Nat), HelS m l q q' → q + 4 * l.length ≤ q'
 | 0, l, q, q', h => by
   rw [HelS] at h
   obtain ⟨rfl, rfl⟩ := h
   simp
 | m + 1, [], q, q', h => by
   obtain rfl := (helS_nil _ _ _).1 h
   simp
 | m + 1, y :: t, q, q', h => by
   obtain ⟨q2, ⟨q1, _, _, h1, _, _, h2⟩, h3⟩ := (helS_cons _ _ _ _ _).1 h
   have a := helS_len m _ _ _ h1
   have b := helS_len m _ _ _ h2
   have c := helS_len (m + 1) t _ _ h3
   rw [List.length_cons]
   omega
termination_by m l => (m, l.length)
def HeS (m : Nat) : Prop := ∀ (A : Option Addr) (c : Nat) (l : List Nd) (w : World) (S : Nat → Prop) (q q' : Nat), NdsAt w S m A l → HelS m l q q' → 1 ≤ q → q' ≤ 200000000 →
 Calls Try.prog 37 #[.slice A l.length c, .int .i64 (q : Int)] w fun e w' => e = .returned (.int .i64 (q' : Int)) ∧ Below w.heap.size w w'
theorem heS_of (m : Nat) (IH : ∀ j, m = j + 1 → HeS j) : HeS m := by
 intro A c l w S q q' hn hh h1 h2
 have hlq := helS_len m l q q' hh
 have hlm : l.length ≤ 100000000 := by omega
 have HN := Lib.hid hn
 have HIH := Lib.hid IH
 have HH0 : Hid (HelS m (l.drop 0) q q') := Lib.hid hh
 clear hn hh IH
 go_enter Try.func37, Try.ntmps37
 go_wp2_with fail
 go_loopw [1, 5] (fun u i wr => ∃ (k qq : Nat), u = .int .i64 (qq : Int) ∧ i = .int .i64 k ∧ k ≤ l.length ∧ 1 ≤ qq ∧ Hid (HelS m (l.drop k) qq q') ∧ Hid (Below w.heap.size w wr)) (fun _ i _ => l.length - (intOf i).toNat)
 case atStart => exact ⟨0, q, rfl, rfl, by omega, h1, HH0, Lib.hid (Below.refl _ _)⟩
 case round =>
  clear HH0
  obtain ⟨k, qq, rfl, rfl, hk, hq1, HH, HB⟩ := hrel
  by_cases hlt : k < l.length
  · obtain ⟨j, rfl⟩ := HN.out.pred hlt
    obtain ⟨x, hd, rfl, hc, hne⟩ := (HN.out.below HB.out).at_ hlt
    have hdrop : l.drop k = l[k] :: l.drop (k + 1) := List.drop_eq_getElem_cons hlt
    have hhk := HH.out
    rw [hdrop] at hhk
    obtain ⟨qb, ⟨qa, hk0, hk1, hk2, hk3, hk4, hk5⟩, hrest⟩ := (helS_cons _ _ _ _ _).1 hhk
    have hl2 := helS_len _ _ _ _ hk2
    have hl5 := helS_len _ _ _ _ hk5
    have hlr := helS_len _ _ _ _ hrest
    have HREST := Lib.hid hrest
    obtain ⟨y, hy⟩ : ∃ y, y = l[k] := ⟨_, rfl⟩
    rw [← hy] at hc hne hk0 hk1 hk2 hk3 hk4 hk5
    have hkq : (y.kind != (qq : Int)) = false := by rw [hk0]; simp
    have hsq : (y.size != (qa : Int)) = false := by rw [hk3]; simp
    have hcq : (y.count != (qa : Int) + 1) = false := by rw [hk4]; simp
    obtain ⟨mk, hmk⟩ : ∃ mk, mk = markB (qq + 1) := ⟨_, rfl⟩
    have HMT : Hid (∀ W : World, Calls Try.prog 55 #[.int .i64 ((qq : Int) + 1)] W fun e w' => e = .returned (.string mk) ∧ Below W.heap.size W w') := Lib.hid fun W => by rw [hmk]; exact markText_any (qq + 1) W (by omega) (by omega)
    have HC1 : Hid (∀ W : World, Below wr.heap.size wr W → Calls Try.prog 37 #[.slice hd.A y.ptrs.length hd.a, .int .i64 ((qq : Int) + 1 + 1)] W fun e w' => e = .returned (.int .i64 (qa : Int)) ∧ Below W.heap.size W w') := Lib.hid fun W hW => HIH.out j rfl hd.A hd.a y.ptrs W S (qq + 2) qa (hne.2.1.below hW) hk2 (by omega) (by omega)
    have HC2 : Hid (∀ W : World, Below wr.heap.size wr W → Calls Try.prog 37 #[.slice hd.B y.items.length hd.b, .int .i64 ((qa : Int) + 1 + 1)] W fun e w' => e = .returned (.int .i64 (qb : Int)) ∧ Below W.heap.size W w') := Lib.hid fun W hW => HIH.out j rfl hd.B hd.b y.items W S (qa + 2) qb (hne.2.2.below hW) hk5 (by omega) (by omega)
    have HCE := Lib.hid hc
    have hw1 : IntKind.i64.wrap ((qq : Int) + 1) = (qq : Int) + 1 := by rw [IntKind.wrap_i64]; omega
    have hw2 : IntKind.i64.wrap ((qq : Int) + 1 + 1) = (qq : Int) + 1 + 1 := by rw [IntKind.wrap_i64]; omega
    have hw3 : IntKind.i64.wrap ((qa : Int) + 1) = (qa : Int) + 1 := by rw [IntKind.wrap_i64]; omega
    have hw4 : IntKind.i64.wrap ((qa : Int) + 1 + 1) = (qa : Int) + 1 + 1 := by rw [IntKind.wrap_i64]; omega
    have hn1 : ¬ ((qa : Int) < 0) := by omega
    have hn2 : ¬ ((qb : Int) < 0) := by omega
    obtain ⟨d0, d1, d2, d3, d4, d5⟩ := hc
    rw [hk1, ← hmk] at d1
    have hHD : Hid (y.data = mk) := Lib.hid (hk1.trans hmk.symm)
    clear hdrop hhk hrest hne hk0 hk1 hk2 hk3 hk4 hk5 hy hmk
    go_wp2_with fail
    go_region_with (go_at_call 55; (with_reducible refine (HMT.out _).mono ?_); rintro e w2 ⟨rfl, hb2⟩; have d1' := (cell_below (w := wr) (w' := w2) ⟨hb2.os, hb2.tape, hb2.output, hb2.size, hb2.block⟩ _ _ _ HCE.out).c1; rw [hHD.out] at d1')
    all_goals
     have hb2' : Below wr.heap.size wr w2 := ⟨hb2.os, hb2.tape, hb2.output, hb2.size, hb2.block⟩
     have HB2 := Lib.hid hb2'
     clear hb2 hb2' d0 d1 d2 d3 d4 d5 d1'
     obtain ⟨d0, d1, d2, d3, d4, d5⟩ := cell_below HB2.out _ _ _ HCE.out
     clear d1
     go_wp2_with fail
     refine (HC1.out _ HB2.out).mono ?_
     rintro e w3 ⟨rfl, hb3⟩
     have HB3 := Lib.hid (HB2.out.trans (hb3.mono HB2.out.size))
     clear hb3 d0 d2 d3 d4 d5
     obtain ⟨d0, d1, d2, d3, d4, d5⟩ := cell_below HB3.out _ _ _ HCE.out
     clear d1
     go_wp2_with fail
     refine (HC2.out _ HB3.out).mono ?_
     rintro e w4 ⟨rfl, hb4⟩
     have HB4 := Lib.hid (HB.out.trans ((HB3.out.trans (hb4.mono HB3.out.size)).mono HB.out.size))
     clear hb4 d0 d2 d3 d4 d5
     go_wp2
     go_roundw
     case rel => exact ⟨k + 1, qb, rfl, by go_num, by omega, by omega, HREST, HB4⟩
     case measure => simp [intOf]; omega
  · obtain rfl : k = l.length := by omega
    have hh := HH.out
    rw [List.drop_length] at hh
    obtain rfl := (helS_nil _ _ _).1 hh
    clear hh
    go_wp2
    go_ret
    exact ⟨rfl, HB.out⟩
theorem heS_any : ∀ m, HeS m
 | 0 => heS_of 0 (fun j h => by cases h)
 | m + 1 => heS_of (m + 1) (fun j h => by obtain rfl : m = j := by omega
                                          exact heS_any m)
def MkN (m : Nat) (n : Nd) (h : Hd) (bs : List Nat) (w : World) (q : Nat) (e : Ending) (w' : World) : Prop := ∃ (p i : List Nd) (q1 q2 : Nat), e = .returned (.int .i64 (q2 : Int)) ∧ q2 ≤ 200000000 ∧ p.length = n.ptrs.length ∧ i.length = n.items.length ∧ OwN w' m (.mk n.kind n.data p n.size n.count i) h bs ∧ HelS m p q q1 ∧ HelS m i q1 q2 ∧ OnlyIn bs w w'
theorem markNode_any (m : Nat) (n : Nd) (h : Hd) (bs : List Nat) (w : World) (q : Nat) (hn : OwN w m n h bs) (hnd : bs.Nodup) (h1 : 1 ≤ q) (h2 : q + 4 * sizN n ≤ 100000000) :
 Calls Try.prog 13 #[.agg #[.int .i64 n.kind, .string n.data, .slice h.A n.ptrs.length h.a, .int .i64 n.size, .int .i64 n.count, .slice h.B n.items.length h.b], .int .i64 (q : Int)] w (MkN m n h bs w q) := by
 obtain ⟨qA, qa, qB, qb⟩ := h
 rw [sizN_eq] at h2
 have hlt := fun b hb => (hn.lt b hb).1
 obtain ⟨hdm, b1, b2, hbs, o1, o2⟩ := hn
 have hnd' := hnd
 rw [hbs] at hnd'
 have hnp := List.nodup_append.1 hnd'
 have hba : Below w.heap.size w (w.alloc (.cells #[.int .i64 n.kind, .string n.data, .slice qA n.ptrs.length qa, .int .i64 n.size, .int .i64 n.count, .slice qB n.items.length qb] nodeT)) := (Below.refl _ _).alloc (Nat.le_refl _) _
 have HP := Lib.hid (heap_alloc_new w (.cells #[.int .i64 n.kind, .string n.data, .slice qA n.ptrs.length qa, .int .i64 n.size, .int .i64 n.count, .slice qB n.items.length qb] nodeT))
 have HC1 := Lib.hid (mkS_any m qA qa n.ptrs b1 _ q (OwS.below o1 hba) hnp.1 h1 (by omega))
 have HO2 := Lib.hid (OwS.below o2 hba)
 have HBA := Lib.hid (OnlyIn.of_below (bs := bs) hba)
 have HDS := Lib.hid hnp.2.2
 have HN2 := Lib.hid hnp.2.1
 have HLT := Lib.hid hlt
 have HBS := Lib.hid hbs
 have HDM := Lib.hid hdm
 have hsz : (w.alloc (.cells #[.int .i64 n.kind, .string n.data, .slice qA n.ptrs.length qa, .int .i64 n.size, .int .i64 n.count, .slice qB n.items.length qb] nodeT)).heap.size = w.heap.size + 1 := by simp
 clear o1 o2 hnd hnd' hnp hba hlt hbs hdm
 unfold MkN
 go_enter Try.func13, Try.ntmps13
 go_wp2_with fail
 generalize w.alloc (.cells #[.int .i64 n.kind, .string n.data, .slice qA n.ptrs.length qa, .int .i64 n.size, .int .i64 n.count, .slice qB n.items.length qb] nodeT) = W at *
 refine HC1.out.mono ?_
 rintro e w1 ⟨p, q1, rfl, ha, hb, hl, hop, hhp, hoi⟩
 have hp1 := (hoi.block w.heap.size (by omega) (fun hm => by have := HLT.out _ (by rw [HBS.out]; exact List.mem_append_left _ hm); omega)).trans HP.out
 obtain ⟨a0, a1, a2, a3, a4, a5⟩ := cells6 hp1
 have HO21 : Hid (OwS w1 m qB qb n.items b2) := Lib.hid (HO2.out.frame _ _ _ _ _ (fun b hb => hoi.block b (HO2.out.lt _ _ _ _ _ b hb).1 (fun hm => HDS.out b hm b hb rfl)))
 have HC2 := Lib.hid (mkS_any m qB qb n.items b2 w1 q1 HO21.out HN2.out (by omega) (by omega))
 have HB1 := Lib.hid (HBA.out.trans (hoi.mono (fun b hb => .inl (by rw [HBS.out]; exact List.mem_append_left _ hb))))
 have HOP := Lib.hid hop
 have HHP := Lib.hid (And.intro hhp hl)
 clear hop hhp hoi hp1 hl HC1 HO2 HBA
 go_wp2_with fail
 refine HC2.out.mono ?_
 rintro e w2 ⟨i, q2, rfl, ha2, hb2, hl2, hoi2, hhi, hoj⟩
 have HFIN : Hid (∃ (p' i' : List Nd) (q1' q2' : Nat), Ending.returned (.int .i64 (q2 : Int)) = .returned (.int .i64 (q2' : Int)) ∧ q2' ≤ 200000000 ∧ p'.length = n.ptrs.length ∧ i'.length = n.items.length ∧ OwN w2 m (.mk n.kind n.data p' n.size n.count i') ⟨qA, qa, qB, qb⟩ bs ∧ HelS m p' q q1' ∧ HelS m i' q1' q2' ∧ OnlyIn bs w w2) := Lib.hid ⟨p, i, q1, q2, rfl, by omega, HHP.out.2, hl2, ⟨HDM.out, b1, b2, HBS.out, HOP.out.frame _ _ _ _ _ (fun b hb => hoj.block b (HOP.out.lt _ _ _ _ _ b hb).1 (fun hm => HDS.out b hb b hm rfl)), hoi2⟩, HHP.out.1, hhi, HB1.out.trans (hoj.mono (fun b hb => .inl (by rw [HBS.out]; exact List.mem_append_right _ hb)))⟩
 clear hoi2 hhi hoj a0 a1 a2 a3 a4 a5
 go_wp2
 go_ret
 exact HFIN.out
theorem heldNode_any (m : Nat) (n : Nd) (h : Hd) (w : World) (S : Nat → Prop) (q q1 q2 : Nat) (hn : NdAt w S m n h) (hp : HelS m n.ptrs q q1) (hi : HelS m n.items q1 q2) (h1 : 1 ≤ q) (h2 : q2 ≤ 200000000) :
 Calls Try.prog 18 #[.agg #[.int .i64 n.kind, .string n.data, .slice h.A n.ptrs.length h.a, .int .i64 n.size, .int .i64 n.count, .slice h.B n.items.length h.b], .int .i64 (q : Int)] w fun e w' => e = .returned (.int .i64 (q2 : Int)) ∧ Below w.heap.size w w' := by
 obtain ⟨qA, qa, qB, qb⟩ := h
 have hl1 := helS_len _ _ _ _ hp
 have hl2 := helS_len _ _ _ _ hi
 have hba : Below w.heap.size w (w.alloc (.cells #[.int .i64 n.kind, .string n.data, .slice qA n.ptrs.length qa, .int .i64 n.size, .int .i64 n.count, .slice qB n.items.length qb] nodeT)) := (Below.refl _ _).alloc (Nat.le_refl _) _
 have HP := Lib.hid (heap_alloc_new w (.cells #[.int .i64 n.kind, .string n.data, .slice qA n.ptrs.length qa, .int .i64 n.size, .int .i64 n.count, .slice qB n.items.length qb] nodeT))
 have HC1 : Hid (∀ W : World, Below w.heap.size w W → Calls Try.prog 37 #[.slice qA n.ptrs.length qa, .int .i64 (q : Int)] W fun e w' => e = .returned (.int .i64 (q1 : Int)) ∧ Below W.heap.size W w') := Lib.hid fun W hW => heS_any m qA qa n.ptrs W S q q1 (hn.2.1.below hW) hp h1 (by omega)
 have HC2 : Hid (∀ W : World, Below w.heap.size w W → Calls Try.prog 37 #[.slice qB n.items.length qb, .int .i64 (q1 : Int)] W fun e w' => e = .returned (.int .i64 (q2 : Int)) ∧ Below W.heap.size W w') := Lib.hid fun W hW => heS_any m qB qb n.items W S q1 q2 (hn.2.2.below hW) hi (by omega) h2
 have HBA := Lib.hid hba
 have hn1 : ¬ ((q1 : Int) < 0) := by omega
 have hn2 : ¬ ((q2 : Int) < 0) := by omega
 clear hn hp hi hba
 go_enter Try.func18, Try.ntmps18
 go_wp2_with fail
 refine (HC1.out _ HBA.out).mono ?_
 rintro e w1 ⟨rfl, hb1⟩
 have HB1 := Lib.hid (HBA.out.trans (hb1.mono HBA.out.size))
 obtain ⟨a0, a1, a2, a3, a4, a5⟩ := cells6 ((hb1.block _ (row_lt HP.out)).trans HP.out)
 clear hb1
 go_wp2_with fail
 refine (HC2.out _ HB1.out).mono ?_
 rintro e w2 ⟨rfl, hb2⟩
 have HB2 := Lib.hid (HB1.out.trans (hb2.mono HB1.out.size))
 clear hb2 a0 a1 a2 a3 a4 a5
 go_wp2
 go_ret
 exact ⟨rfl, HB2.out⟩
theorem eqVal_a (m : Nat) (x : Int) (y : Nd) (h1 h2 : Hd) (w : World) (S S' : Nat → Prop) (a : NdAt w S m y h1) (b : NdAt w S' m y h2) (ht : totN m y ≤ 2000000) :
 Calls Try.prog 11 #[valV x y h1, valV x y h2] w fun e w' => e = .returned (.bool true) ∧ Below w.heap.size w w' := by
 have q0 := al_first w (.cells #[.int .i64 x, .int .i64 y.kind, .string y.data, .slice h1.A y.ptrs.length h1.a, .int .i64 y.size, .int .i64 y.count, .slice h1.B y.items.length h1.b] valT)
 have q1 := al_next q0 (.cells #[.int .i64 x, .int .i64 y.kind, .string y.data, .slice h2.A y.ptrs.length h2.a, .int .i64 y.size, .int .i64 y.count, .slice h2.B y.items.length h2.b] valT)
 have r0 := heap_alloc_keep (heap_alloc_new w (.cells #[.int .i64 x, .int .i64 y.kind, .string y.data, .slice h1.A y.ptrs.length h1.a, .int .i64 y.size, .int .i64 y.count, .slice h1.B y.items.length h1.b] valT)) (.cells #[.int .i64 x, .int .i64 y.kind, .string y.data, .slice h2.A y.ptrs.length h2.a, .int .i64 y.size, .int .i64 y.count, .slice h2.B y.items.length h2.b] valT)
 have r1 := al_row q0 #[.int .i64 x, .int .i64 y.kind, .string y.data, .slice h2.A y.ptrs.length h2.a, .int .i64 y.size, .int .i64 y.count, .slice h2.B y.items.length h2.b] valT
 have HE := Lib.hid (fun (W : World) (hW : Below w.heap.size w W) => eqN_any m y h1 h2 W S S' (a.below hW) (b.below hW) ht)
 have HB0 := Lib.hid q1.2
 obtain ⟨a0, a1, a2, a3, a4, a5, a6⟩ := cellsV r0
 obtain ⟨b0, b1, b2, b3, b4, b5, b6⟩ := cellsV r1
 clear q1 q0 r0 r1 a b ht
 go_enter Try.func11, Try.ntmps11
 go_wp2_with fail
 refine (HE.out _ HB0.out).mono ?_
 rintro e w1 ⟨rfl, hb1⟩
 have HB1 := Lib.hid (HB0.out.trans (hb1.mono HB0.out.size))
 clear hb1 a0 a1 a2 a3 a4 a5 a6 b0 b1 b2 b3 b4 b5 b6
 go_wp2
 go_ret
 exact ⟨rfl, HB1.out⟩
theorem markVal_a (m : Nat) (x : Int) (n : Nd) (h : Hd) (bs : List Nat) (w : World) (q : Nat) (hn : OwN w m n h bs) (hnd : bs.Nodup) (h1 : 1 ≤ q) (h2 : q + 4 * sizN n ≤ 100000000) :
 Calls Try.prog 14 #[valV x n h, .int .i64 (q : Int)] w (MkN m n h bs w q) := by
 have q0 := al_first w (.cells #[.int .i64 x, .int .i64 n.kind, .string n.data, .slice h.A n.ptrs.length h.a, .int .i64 n.size, .int .i64 n.count, .slice h.B n.items.length h.b] valT)
 have r0 := heap_alloc_new w (.cells #[.int .i64 x, .int .i64 n.kind, .string n.data, .slice h.A n.ptrs.length h.a, .int .i64 n.size, .int .i64 n.count, .slice h.B n.items.length h.b] valT)
 have HC := Lib.hid (markNode_any m n h bs _ q (hn.below q0.2) hnd h1 h2)
 have HO := Lib.hid (OnlyIn.of_below (bs := bs) q0.2)
 obtain ⟨a0, a1, a2, a3, a4, a5, a6⟩ := cellsV r0
 clear q0 r0 hn hnd h1 h2
 unfold MkN at HC ⊢
 go_enter Try.func14, Try.ntmps14
 go_wp2_with fail
 generalize w.alloc (.cells #[.int .i64 x, .int .i64 n.kind, .string n.data, .slice h.A n.ptrs.length h.a, .int .i64 n.size, .int .i64 n.count, .slice h.B n.items.length h.b] valT) = W at *
 clear a0 a1 a2 a3 a4 a5 a6
 refine HC.out.mono ?_
 rintro e w1 ⟨p, i, q1, q2, rfl, g1, g2, g3, g4, g5, g6, g7⟩
 have HF : Hid (∃ (p' i' : List Nd) (q1' q2' : Nat), Ending.returned (.int .i64 (q2 : Int)) = .returned (.int .i64 (q2' : Int)) ∧ q2' ≤ 200000000 ∧ p'.length = n.ptrs.length ∧ i'.length = n.items.length ∧ OwN w1 m (.mk n.kind n.data p' n.size n.count i') h bs ∧ HelS m p' q q1' ∧ HelS m i' q1' q2' ∧ OnlyIn bs w w1) := Lib.hid ⟨p, i, q1, q2, rfl, g1, g2, g3, g4, g5, g6, HO.out.trans g7⟩
 clear g1 g2 g3 g4 g5 g6 g7
 go_wp2
 go_ret
 exact HF.out
theorem heldVal_a (m : Nat) (x : Int) (n : Nd) (h : Hd) (w : World) (S : Nat → Prop) (q q1 q2 : Nat) (hn : NdAt w S m n h) (hp : HelS m n.ptrs q q1) (hi : HelS m n.items q1 q2) (h1 : 1 ≤ q) (h2 : q2 ≤ 200000000) :
 Calls Try.prog 15 #[valV x n h, .int .i64 (q : Int)] w fun e w' => e = .returned (.int .i64 (q2 : Int)) ∧ Below w.heap.size w w' := by
 have q0 := al_first w (.cells #[.int .i64 x, .int .i64 n.kind, .string n.data, .slice h.A n.ptrs.length h.a, .int .i64 n.size, .int .i64 n.count, .slice h.B n.items.length h.b] valT)
 have r0 := heap_alloc_new w (.cells #[.int .i64 x, .int .i64 n.kind, .string n.data, .slice h.A n.ptrs.length h.a, .int .i64 n.size, .int .i64 n.count, .slice h.B n.items.length h.b] valT)
 have HC := Lib.hid (heldNode_any m n h _ S q q1 q2 (hn.below q0.2) hp hi h1 h2)
 have HB0 := Lib.hid q0.2
 obtain ⟨a0, a1, a2, a3, a4, a5, a6⟩ := cellsV r0
 have hq2 : ¬ ((q2 : Int) < 0) := by omega
 clear q0 r0 hn hp hi h1 h2
 go_enter Try.func15, Try.ntmps15
 go_wp2_with fail
 generalize w.alloc (.cells #[.int .i64 x, .int .i64 n.kind, .string n.data, .slice h.A n.ptrs.length h.a, .int .i64 n.size, .int .i64 n.count, .slice h.B n.items.length h.b] valT) = W at *
 clear a0 a1 a2 a3 a4 a5 a6
 refine HC.out.mono ?_
 rintro e w1 ⟨rfl, hb1⟩
 have HB1 := Lib.hid (HB0.out.trans (hb1.mono HB0.out.size))
 clear hb1
 go_wp2
 go_ret
 exact ⟨rfl, HB1.out⟩
@[local go_sem] theorem run_store_fnA (P : Program) (w : World) (a : Addr) (m : Mode) (fn : Fn) (x y : Array Value) : (store a (.func fn x y) m).run P w = stored P w a (.func fn x y) m := run_store P w a _ m rfl
abbrev acrT : TypeId := 57
theorem cellsA {w : World} {g : Nat} {v0 v1 : Value} {T : TypeId} (h : w.heap[g]? = some (.cells #[v0, v1] T (0, 0))) : w.cell? ⟨g, 0, none⟩ = some v0 ∧ w.cell? ⟨g, 1, none⟩ = some v1 := by
 refine ⟨?_, ?_⟩ <;> (rw [cell_of_row _ _ _ _ _ _ h]; rfl)
theorem cellA {w : World} {g : Nat} {v0 : Value} {T : TypeId} (h : w.heap[g]? = some (.cells #[v0] T (0, 0))) : w.cell? ⟨g, 0, none⟩ = some v0 := by
 rw [cell_of_row _ _ _ _ _ _ h]; rfl
def bit1V (b : Nat) : Value := .func (.func 71) #[] #[.pointer (some ⟨b, 0, none⟩), .pointer (some ⟨b + 1, 0, none⟩)]
def bit2V (b : Nat) : Value := .func (.func 73) #[] #[.pointer (some ⟨b, 0, none⟩), .pointer (some ⟨b + 1, 0, none⟩)]
def num1V (b : Nat) : Value := .func (.func 75) #[] #[.pointer (some ⟨b, 0, none⟩), .pointer (some ⟨b + 1, 0, none⟩), .pointer (some ⟨b + 2, 0, none⟩)]
def num2V (b : Nat) : Value := .func (.func 77) #[] #[.pointer (some ⟨b, 0, none⟩), .pointer (some ⟨b + 1, 0, none⟩), .pointer (some ⟨b + 2, 0, none⟩)]
def point1V (b : Nat) : Value := .func (.func 68) #[] #[.pointer (some ⟨b, 0, none⟩)]
def point2V (b : Nat) : Value := .func (.func 70) #[] #[]
def told1V (b : Nat) : Value := .func (.func 79) #[] #[.pointer (some ⟨b + 1, 0, none⟩), .pointer (some ⟨b + 2, 0, none⟩), .pointer (some ⟨b, 0, none⟩)]
def told2V (b : Nat) : Value := .func (.func 80) #[] #[.pointer (some ⟨b, 0, none⟩), .pointer (some ⟨b + 1, 0, none⟩), .pointer (some ⟨b + 2, 0, none⟩)]
theorem bitAcc_any (at_ tu : Int) (w : World) :
 Calls Try.prog 50 #[.int .i64 at_, .int .i64 tu] w fun e w' => e = .returned (.agg #[bit1V w.heap.size, bit2V w.heap.size]) ∧ w'.heap[w.heap.size]? = some (.cells #[.int .i64 at_] 3 (0, 0)) ∧ w'.heap[w.heap.size + 1]? = some (.cells #[.int .i64 tu] 3 (0, 0)) ∧ Below w.heap.size w w' := by
 have hmf : ∀ (fn : Fn) (first cap : Array Value) (w : World), (Instr.makeFunc fn first cap).run Try.prog w = .ok (.func fn first cap) w := fun _ _ _ _ => rfl
 have q0 := al_first w (.cells #[.int .i64 at_] 3)
 have q1 := al_next q0 (.cells #[.int .i64 tu] 3)
 have q2 := al_next q1 (.cells #[bit1V w.heap.size, bit2V w.heap.size] acrT)
 have r0 := heap_alloc_keep (heap_alloc_keep (heap_alloc_new w (.cells #[.int .i64 at_] 3)) (.cells #[.int .i64 tu] 3)) (.cells #[bit1V w.heap.size, bit2V w.heap.size] acrT)
 have r1 := heap_alloc_keep (al_row q0 #[.int .i64 tu] 3) (.cells #[bit1V w.heap.size, bit2V w.heap.size] acrT)
 have rx := al_row q1 #[bit1V w.heap.size, bit2V w.heap.size] acrT
 obtain ⟨e0, e1⟩ := cellsA rx
 have HE := Lib.hid (And.intro e0 e1)
 have HR := Lib.hid (And.intro r0 (And.intro r1 q2.2))
 clear e0 e1 rx r0 r1 q2 q1 q0
 go_enter Try.func50, Try.ntmps50
 go_wp2
 obtain ⟨e0, e1⟩ := HE.out
 unfold bit1V bit2V at e0 e1
 exact bodyPost_ret (v := .agg #[bit1V w.heap.size, bit2V w.heap.size]) (by simp [results, Try.results50, go_sem, e0, e1, bit1V, bit2V]) rfl ⟨rfl, HR.out⟩
theorem numAcc_any (at_ sz tu : Int) (w : World) :
 Calls Try.prog 51 #[.int .i64 at_, .int .i64 sz, .int .i64 tu] w fun e w' => e = .returned (.agg #[num1V w.heap.size, num2V w.heap.size]) ∧ w'.heap[w.heap.size]? = some (.cells #[.int .i64 at_] 3 (0, 0)) ∧ w'.heap[w.heap.size + 1]? = some (.cells #[.int .i64 sz] 3 (0, 0)) ∧ w'.heap[w.heap.size + 2]? = some (.cells #[.int .i64 tu] 3 (0, 0)) ∧ Below w.heap.size w w' := by
 have hmf : ∀ (fn : Fn) (first cap : Array Value) (w : World), (Instr.makeFunc fn first cap).run Try.prog w = .ok (.func fn first cap) w := fun _ _ _ _ => rfl
 have q0 := al_first w (.cells #[.int .i64 at_] 3)
 have q1 := al_next q0 (.cells #[.int .i64 sz] 3)
 have q2 := al_next q1 (.cells #[.int .i64 tu] 3)
 have q3 := al_next q2 (.cells #[num1V w.heap.size, num2V w.heap.size] acrT)
 have r0 := heap_alloc_keep (heap_alloc_keep (heap_alloc_keep (heap_alloc_new w (.cells #[.int .i64 at_] 3)) (.cells #[.int .i64 sz] 3)) (.cells #[.int .i64 tu] 3)) (.cells #[num1V w.heap.size, num2V w.heap.size] acrT)
 have r1 := heap_alloc_keep (heap_alloc_keep (al_row q0 #[.int .i64 sz] 3) (.cells #[.int .i64 tu] 3)) (.cells #[num1V w.heap.size, num2V w.heap.size] acrT)
 have r2 := heap_alloc_keep (al_row q1 #[.int .i64 tu] 3) (.cells #[num1V w.heap.size, num2V w.heap.size] acrT)
 have rx := al_row q2 #[num1V w.heap.size, num2V w.heap.size] acrT
 obtain ⟨e0, e1⟩ := cellsA rx
 have HE := Lib.hid (And.intro e0 e1)
 have HR := Lib.hid (And.intro r0 (And.intro r1 (And.intro r2 q3.2)))
 clear e0 e1 rx r0 r1 r2 q3 q2 q1 q0
 go_enter Try.func51, Try.ntmps51
 go_wp2
 obtain ⟨e0, e1⟩ := HE.out
 unfold num1V num2V at e0 e1
 exact bodyPost_ret (v := .agg #[num1V w.heap.size, num2V w.heap.size]) (by simp [results, Try.results51, go_sem, e0, e1, num1V, num2V]) rfl ⟨rfl, HR.out⟩
theorem pointAcc_any (at_ : Int) (w : World) :
 Calls Try.prog 49 #[.int .i64 at_] w fun e w' => e = .returned (.agg #[point1V w.heap.size, point2V w.heap.size]) ∧ w'.heap[w.heap.size]? = some (.cells #[.int .i64 at_] 3 (0, 0)) ∧ Below w.heap.size w w' := by
 have hmf : ∀ (fn : Fn) (first cap : Array Value) (w : World), (Instr.makeFunc fn first cap).run Try.prog w = .ok (.func fn first cap) w := fun _ _ _ _ => rfl
 have q0 := al_first w (.cells #[.int .i64 at_] 3)
 have q1 := al_next q0 (.cells #[point1V w.heap.size, point2V w.heap.size] acrT)
 have r0 := heap_alloc_keep (heap_alloc_new w (.cells #[.int .i64 at_] 3)) (.cells #[point1V w.heap.size, point2V w.heap.size] acrT)
 have rx := al_row q0 #[point1V w.heap.size, point2V w.heap.size] acrT
 obtain ⟨e0, e1⟩ := cellsA rx
 have HE := Lib.hid (And.intro e0 e1)
 have HR := Lib.hid (And.intro r0 q1.2)
 clear e0 e1 rx r0 q1 q0
 go_enter Try.func49, Try.ntmps49
 go_wp2
 obtain ⟨e0, e1⟩ := HE.out
 unfold point1V point2V at e0 e1
 exact bodyPost_ret (v := .agg #[point1V w.heap.size, point2V w.heap.size]) (by simp [results, Try.results49, go_sem, e0, e1, point1V, point2V]) rfl ⟨rfl, HR.out⟩
theorem told_any (f g : Value) (tg pl : Int) (w : World) :
 Calls Try.prog 53 #[.agg #[f, g], .int .i64 tg, .int .i64 pl] w fun e w' => e = .returned (.agg #[told1V w.heap.size, told2V w.heap.size]) ∧ w'.heap[w.heap.size]? = some (.cells #[f, g] acrT (0, 0)) ∧ w'.heap[w.heap.size + 1]? = some (.cells #[.int .i64 tg] 3 (0, 0)) ∧ w'.heap[w.heap.size + 2]? = some (.cells #[.int .i64 pl] 3 (0, 0)) ∧ Below w.heap.size w w' := by
 have hmf : ∀ (fn : Fn) (first cap : Array Value) (w : World), (Instr.makeFunc fn first cap).run Try.prog w = .ok (.func fn first cap) w := fun _ _ _ _ => rfl
 have q0 := al_first w (.cells #[f, g] acrT)
 have q1 := al_next q0 (.cells #[.int .i64 tg] 3)
 have q2 := al_next q1 (.cells #[.int .i64 pl] 3)
 have q3 := al_next q2 (.cells #[told1V w.heap.size, told2V w.heap.size] acrT)
 have r0 := heap_alloc_keep (heap_alloc_keep (heap_alloc_keep (heap_alloc_new w (.cells #[f, g] acrT)) (.cells #[.int .i64 tg] 3)) (.cells #[.int .i64 pl] 3)) (.cells #[told1V w.heap.size, told2V w.heap.size] acrT)
 have r1 := heap_alloc_keep (heap_alloc_keep (al_row q0 #[.int .i64 tg] 3) (.cells #[.int .i64 pl] 3)) (.cells #[told1V w.heap.size, told2V w.heap.size] acrT)
 have r2 := heap_alloc_keep (al_row q1 #[.int .i64 pl] 3) (.cells #[told1V w.heap.size, told2V w.heap.size] acrT)
 have rx := al_row q2 #[told1V w.heap.size, told2V w.heap.size] acrT
 obtain ⟨e0, e1⟩ := cellsA rx
 have HE := Lib.hid (And.intro e0 e1)
 have HR := Lib.hid (And.intro r0 (And.intro r1 (And.intro r2 q3.2)))
 clear e0 e1 rx r0 r1 r2 q3 q2 q1 q0
 go_enter Try.func53, Try.ntmps53
 go_wp2
 obtain ⟨e0, e1⟩ := HE.out
 unfold told1V told2V at e0 e1
 exact bodyPost_ret (v := .agg #[told1V w.heap.size, told2V w.heap.size]) (by simp [results, Try.results53, go_sem, e0, e1, told1V, told2V]) rfl ⟨rfl, HR.out⟩
end Go.Proofs.Ytfnecflkahmjoaa
