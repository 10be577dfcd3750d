/- Texts of the proof of the law FnExactRecordOf, side by side: part 9. -/
import Derived.StillTailTactics
import Derived.Test.YtehhbbdaeonebaaGreatDoorMExactRecordOf08
set_option maxHeartbeats 8000000
set_option maxRecDepth 100000
namespace Go.Proofs.YtehhbbdaeonebaaGreatDoor
open Go.RowKit
structure PairAt (w : World) (p : Addr) (a b : Int) : Prop where
 c0 : w.cell? p = some (.int .i64 a)
 c1 : w.cell? ⟨p.block, p.off + 1, none⟩ = some (.int .i64 b)
theorem roomCells_at : ∀ (l : List (Nat × Nat)) (k : Nat) (h : k < l.length), (roomCells l)[k * 2]? = some (.int .i64 (6 - ((l[k]).1 : Int))) ∧ (roomCells l)[k * 2 + 1]? = some (.int .i64 ((l[k]).2 : Int))
 | [], k, h => absurd h (Nat.not_lt_zero _)
 | r :: t, 0, _ => ⟨rfl, rfl⟩
 | r :: t, k + 1, h => by
   have := roomCells_at t k (by simpa using h)
   rw [show (k + 1) * 2 = k * 2 + 1 + 1 by omega]
   exact this
theorem add_off (x : Addr) (n : Nat) : (⟨(x.add n).block, (x.add n).off + 1, none⟩ : Addr) = x.add (n + 1) := by
 by_cases h : n = 0
 · subst h; simp [Addr.add]
 · simp [Addr.add, h]; omega
theorem shared_at {w : World} {R : Nat} {v : Value} {l : List (Nat × Nat)} (h : w.ownsRow R roomT 2 v l.length (roomCells l)) {k : Nat} (hk : k < l.length) :
 ∃ x cap, v = .slice (some x) l.length cap ∧ PairAt w (x.add (k * 2)) (6 - ((l[k]).1 : Int)) ((l[k]).2 : Int) := by
 obtain ⟨h1, h2⟩ := roomCells_at l k hk
 rcases h.2 with ⟨rfl, h0⟩ | ⟨g, cap, cur, rfl, _, hg, _⟩
 · omega
 · refine ⟨_, cap, rfl, ?_, ?_⟩
   · exact h.cells (g := g) rfl (k * 2) _ h1
   · rw [add_off]; exact h.cells (g := g) rfl (k * 2 + 1) _ h2
theorem infoRoom : (Tryz.prog.info? roomT).map (fun i => (i.zero, i.size, i.bytes)) = some (some (.agg #[.int .i64 0, .int .i64 0]), 2, 16) := by kernel_rfl
theorem share_hit {s : PS} {kd k : Nat} (hk : k < s.shared.length) (hn : ∀ j (hj : j < k), kd < (s.shared[j]'(Nat.lt_trans hj hk)).1) (hle : (s.shared[k]).1 ≤ kd) : shareF kd s = ((s.shared[k]).2 * 2 ^ (kd - (s.shared[k]).1), s) := by
 have hf : s.shared.find? (fun r => r.1 ≤ kd) = some s.shared[k] := by
  rw [List.find?_eq_some_iff_getElem]
  refine ⟨by simpa using hle, k, hk, rfl, fun j hj => ?_⟩
  have := hn j hj
  simp; omega
 unfold shareF
 rw [hf]
theorem share_miss {s : PS} {kd : Nat} (hn : ∀ r ∈ s.shared, kd < r.1) : shareF kd s = ((roomF kd s.ls).1, { s with ls := (roomF kd s.ls).2, shared := s.shared ++ [(kd, (roomF kd s.ls).1)] }) := by
 have hf : s.shared.find? (fun r => r.1 ≤ kd) = none := by
  rw [List.find?_eq_none]
  intro r hr
  have := hn r hr
  simp; omega
 unfold shareF
 rw [hf]
theorem own_slice2 {w : World} {B e n z : Nat} {v : Value} {xs : List Value} (h : w.ownsRow B e z v n xs) : ∃ A cap, v = .slice A n cap := by
 rcases h.2 with ⟨rfl, rfl⟩ | ⟨g, cap, _, rfl, _⟩
 · exact ⟨none, 0, rfl⟩
 · exact ⟨_, cap, rfl⟩
theorem own_not_block {w : World} {base e z n x : Nat} {v : Value} {xs : List Value} {e' z' n' : Nat} {v' : Value} {xs' : List Value} {base' : Nat} (h : w.ownsRow base e z v n xs) (h' : w.ownsRow base' e' z' v' n' xs') (hne : e ≠ e') (hx : v'.ownBlock = some x) : v.ownBlock ≠ some x := by
 rcases h'.2 with ⟨rfl, _⟩ | ⟨g', cap, cur, rfl, _, hg, _⟩
 · simp [Value.ownBlock] at hx
 · have : g' = x := by simpa [Value.ownBlock] using hx
   subst this
   exact own_ne_blk h hg hne
theorem Pl.grown_row {w w6 : World} {R g bm : Nat} {v1 v2 v : Value} {s : PS} {sl : List Nat} {N : Nat} {o : Obj} {e z n : Nat} {xs : List Value} (h : Pl w R g bm v1 v2 s sl N) (hv : w.ownsRow R e z v n xs) (hne : e ≠ planT) (hg : (w.alloc o).grownBy w6 v.ownBlock) :
 w6.heap[g]? = some (.cells (planCells s v1 v2 bm) planT (0, 0)) :=
 (hg.block g (by have := h.lt; simp; omega) (fun e => own_ne_blk hv h.row hne e.symm)).trans (h.alloc o).row
theorem holes_grown {w w' : World} {bm N : Nat} {f : Nat → Nat} {row : Option Nat} (h : ∃ n D, n ≤ N ∧ w.ownsMap (H := Unit) Tryz.prog 148 (plainElem Tryz.prog 3) bm n D ∧ HoleD D f) (hg : w.grownBy w' row) (hne : some bm ≠ row) : ∃ n D, n ≤ N ∧ w'.ownsMap (H := Unit) Tryz.prog 148 (plainElem Tryz.prog 3) bm n D ∧ HoleD D f := by
 obtain ⟨n, D, hn, hm, hd⟩ := h
 exact ⟨n, D, hn, hm.kept hg hne, hd⟩
theorem map_ne_own {w : World} {bm N e z n base : Nat} {f : Nat → Nat} {v : Value} {xs : List Value} (h : ∃ n D, n ≤ N ∧ w.ownsMap (H := Unit) Tryz.prog 148 (plainElem Tryz.prog 3) bm n D ∧ HoleD D f) (hv : w.ownsRow base e z v n xs) : some bm ≠ v.ownBlock := by
 obtain ⟨_, D, _, ⟨es, c, hb, _⟩, _⟩ := h
 exact fun e => own_ne_map hv hb e.symm
theorem grown_below {w w6 : World} {R e z n : Nat} {o : Obj} {v : Value} {xs : List Value} (hr : R ≤ w.heap.size) (hv : w.ownsRow R e z v n xs) (hg : (w.alloc o).grownBy w6 v.ownBlock) : Below R w w6 :=
 ((Below.refl R w).alloc hr o).grown hg (by simp; omega) (fun k hk => (hv.lt k hk).1)
theorem Pl.share_done {w w6 : World} {R g bm : Nat} {v1 v2 v' : Value} {s : PS} {sl : List Nat} {N : Nat} {o : Obj} {r : Nat × Nat} (h : Pl w R g bm v1 v2 s sl N) (hg : (w.alloc o).grownBy w6 v2.ownBlock)
 (hv : w6.ownsRow R roomT 2 v' (s.shared.length + 1) (roomCells s.shared ++ [.int .i64 (6 - (r.1 : Int)), .int .i64 (r.2 : Int)])) :
 Pl (w6.setCell ⟨g, 6, none⟩ v') R g bm v1 v' { s with shared := s.shared ++ [r] } sl N ∧ Below R w (w6.setCell ⟨g, 6, none⟩ v') := by
 have hrow := h.grown_row h.shared (by decide) hg
 have hs := grown_set w6 g 6 v'
 have hgn : w.grownBy w6 v2.ownBlock := (World.grownBy_alloc w o _).trans hg
 have hsl : w6.ownsRow R slotT 1 v1 sl.length (slotCells sl) := by
  refine h.slots.kept hgn ?_
  cases hb : v2.ownBlock with
  | none => cases hv1 : v1.ownBlock <;> simp
  | some x => exact .inr (own_not_block h.slots h.shared (by decide) hb)
 have hho := holes_grown h.holes hgn (map_ne_own h.holes h.shared)
 refine ⟨⟨?_, h.rg, h.rb, hsl.kept hs (.inr (own_ne_blk hsl hrow (by decide))), ?_, holes_grown hho hs (fun e => h.gm (by injection e with e; exact e.symm))⟩, ?_⟩
 · rw [row_set hrow]; rfl
 · show (w6.setCell ⟨g, 6, none⟩ v').ownsRow R roomT 2 v' (s.shared ++ [r]).length (roomCells (s.shared ++ [r]))
   rw [roomCells_app, List.length_append]
   exact hv.kept hs (.inr (own_ne_blk hv hrow (by decide)))
 · exact (grown_below h.rs h.shared hg).setCell (p := ⟨g, 6, none⟩) h.rg _
def ShareP (R g bm : Nat) (v1 : Value) (a : Nat) (s' : PS) (sl : List Nat) (N : Nat) (w : World) (e : Ending) (w' : World) : Prop :=
 ∃ v2, PlaceP R g bm v1 v2 a s' sl N w e w'
theorem drew_below (R : Nat) (w : World) : Below R w w.drew := ⟨rfl, rfl, rfl, Nat.le_refl _, fun _ _ => rfl⟩
theorem drewN_below (R : Nat) (w : World) (n : Nat) : Below R w (w.drewN n) := ⟨rfl, rfl, rfl, Nat.le_refl _, fun _ _ => rfl⟩
theorem sharedRoom_any (R g bm : Nat) (v1 v2 : Value) (s : PS) (sl : List Nat) (N : Nat) (hN : N ≤ 1000) (hbd : LBd 40 s.ls) (hsl : s.shared.length ≤ 1000) (hsb : ∀ r ∈ s.shared, r.1 ≤ 6 ∧ r.2 ≤ 100000) (kd : Nat) (c : Int) (hc : c + kd = 6) (hkd : kd ≤ 6) (w : World) (h : Pl w R g bm v1 v2 s sl N) :
 Calls Tryz.prog 108 #[.pointer (some ⟨g, 0, none⟩), .int .i64 c] w (ShareP R g bm v1 (shareF kd s).1 (shareF kd s).2 sl (N + 6) w) := by
 obtain ⟨i0, hi, hz0, hz1, hz2⟩ := info_parts infoRoom
 obtain ⟨c0, c1, c2, c3, c4, c5, c6, c7⟩ := h.cells
 have HH := Lib.hid h
 have HBD := Lib.hid hbd
 have HSB := Lib.hid hsb
 have HC := Lib.hid hc
 have hv2 : ∃ A cap, v2 = .slice A s.shared.length cap := by
  rcases h.shared.2 with ⟨rfl, h0⟩ | ⟨g', cap, cur, rfl, _⟩
  · exact ⟨none, 0, by rw [h0]⟩
  · exact ⟨_, cap, rfl⟩
 have hrR := h.rs
 have hR0 := h.rg
 have hc0' : 0 ≤ c := by omega
 have hc6' : c ≤ 6 := by omega
 obtain ⟨A, cap, rfl⟩ := hv2
 clear h hbd hsb hc c0 c1 c2 c3 c4 c5 c7
 go_enter Tryz.func108, Tryz.ntmps108
 go_wp2
 go_loopw [12] (fun i wr => ∃ k : Nat, i = .int .i64 k ∧ k ≤ s.shared.length ∧ Hid (∀ j (hj : j < s.shared.length), j < k → kd < (s.shared[j]).1) ∧ Hid (Pl wr R g bm v1 (.slice A s.shared.length cap) s sl N) ∧ Hid (Below R w wr)) (fun i _ => s.shared.length - (intOf i).toNat)
 case atStart => exact ⟨0, rfl, by omega, by exact Lib.hid (fun j _ hj => absurd hj (Nat.not_lt_zero _)), by exact HH, by exact Lib.hid (Below.refl _ _)⟩
 case round =>
  obtain ⟨k, rfl, hk, HN, HP, HB⟩ := hrel
  by_cases hlt : k < s.shared.length
  · obtain ⟨x, cap', hxe, hx⟩ := shared_at HP.out.shared hlt
    obtain ⟨rfl, -⟩ : A = some x ∧ cap = cap' := by injection hxe with e1 e2 e3; exact ⟨e1, e3⟩
    clear hxe
    have hr := HSB.out s.shared[k] (List.getElem_mem hlt)
    have HNX : Hid (∀ j, j < k → ∀ (hj : j < s.shared.length), kd < (s.shared[j]).1) := Lib.hid (fun j hjk hj => HN.out j hj hjk)
    obtain ⟨d, hd⟩ : ∃ d, d = s.shared[k] := ⟨_, rfl⟩
    rw [← hd] at hx hr
    have HDD := Lib.hid hd
    clear hd
    obtain ⟨dk, da⟩ := d
    obtain ⟨c0, c1⟩ := hx
    obtain ⟨hr1, hr2⟩ := hr
    by_cases hle : dk ≤ kd
    · have HE : Hid (shareF kd s = (da * 2 ^ (kd - dk), s)) := by
       refine Lib.hid ?_
       rw [share_hit hlt (fun j hj => HNX.out j hj _) (by rw [← HDD.out]; exact hle), ← HDD.out]
      have hge : c ≤ 6 - (dk : Int) := by have := HC.out; omega
      have hsub : (6 - (dk : Int)) - c = ((kd - dk : Nat) : Int) := by have := HC.out; omega
      have HSB2 := Lib.hid hsub
      have hB2 := HB.out.alloc (by have := HP.out.rs; exact this) (.cells #[.int .i64 (6 - (dk : Int)), .int .i64 (da : Int)] roomT)
      have HB2 := Lib.hid hB2
      have hd6 : (6 - (dk : Int)) ≤ 6 := by omega
      have hkd6 : kd - dk ≤ 6 := by omega
      have hPr := HP.out.rs
      generalize (6 - (dk : Int)) = sc at c0 hge HSB2 HB2 hd6
      clear hsub hB2
      go_wp2_with fail
      refine (start_any sc c da (kd - dk) _ HSB2.out hkd6 hr2 hc0' hd6).mono ?_
      rintro e w3 ⟨rfl, hb3⟩
      have HP3 := Lib.hid ((HP.out.alloc _).below hb3)
      have HB3 := Lib.hid (HB2.out.trans (hb3.mono (by simp; omega)))
      clear hb3
      go_wp2
      go_ret
      refine ⟨.slice (some x) s.shared.length cap, ?_⟩
      rw [PlaceP, HE.out]
      exact ⟨rfl, HP3.out.mono (by omega), HB3.out⟩
    · have hlt2 : 6 - (dk : Int) < c := by have := HC.out; omega
      have HNN : Hid (∀ j (hj : j < s.shared.length), j < k + 1 → kd < (s.shared[j]).1) := by
       refine Lib.hid (fun j hj hjk => ?_)
       by_cases e : j = k
       · subst e
         rw [← HDD.out]; exact Nat.lt_of_not_le hle
       · exact HN.out j hj (by omega)
      clear hle
      go_wp2
      go_roundw
      case rel => exact ⟨k + 1, by go_num, by omega, HNN, Lib.hid (HP.out.alloc _), Lib.hid (HB.out.alloc HP.out.rs _)⟩
      case measure => simp [intOf]; omega
  · obtain rfl : k = s.shared.length := by omega
    have HE : Hid (shareF kd s = ((roomF kd s.ls).1, { s with ls := (roomF kd s.ls).2, shared := s.shared ++ [(kd, (roomF kd s.ls).1)] })) := by
     refine Lib.hid (share_miss ?_)
     intro r hr
     obtain ⟨j, hj, rfl⟩ := List.getElem_of_mem hr
     exact HN.out j hj hj
    have hwR := HP.out.rs
    clear hlt hk c6
    have e6 := HP.out.cells.2.2.2.2.2.2.1
    go_wp2
    go_region_law (first
     | (go_simp; go_at_call 105; refine (room_any R g bm v1 (.slice A s.shared.length cap) s sl N hN HBD.out kd c _ HC.out hkd (by first | exact HP.out | exact HP.out.drew)).mono ?_; rintro e w5 ⟨rfl, hp5, hb5, -⟩; have d6 := hp5.cells.2.2.2.2.2.2.1; have f6 := row_free hp5.row 6; have hr5 := hp5.rs; have hlt5 := hp5.lt; have d6a := (fun o => (hp5.alloc o).cells.2.2.2.2.2.2.1); have HP5 := Lib.hid hp5; have HB5 := Lib.hid hb5; clear hp5 hb5)
     | (refine step_append_own rfl (.tmp 28) (.tmp 34) 129 rfl R roomT i0 (.agg #[.int .i64 0, .int .i64 0]) 2 16 Tryz.underlying129 hi hz0 hz1 hz2 rfl (by decide) (.slice A s.shared.length cap) s.shared.length _ (by simp [Act.eval]) (HP5.out.shared.alloc _) ⟨w5.heap.size, 0, none⟩ 1 1 [_, _] (by simp [Act.eval]) rfl (cell_two_new' _ _ _ _) (by simp [Value.oneCell']) (by unfold maxLen; omega) (by omega) (by simp; omega) ?_; intro v' w6 hown6 hgrow6; obtain ⟨A', cap', rfl⟩ := own_slice2 hown6.out; have r6 := HP5.out.grown_row HP5.out.shared (by decide) hgrow6.out; have f6' := row_free r6 6; have c6' : w6.cell? ⟨g, 6, none⟩ = some (.slice A s.shared.length cap) := (by rw [cell_of_row _ _ _ _ _ _ r6]; rfl); clear r6))
    all_goals
     have hrk : (6 : Int) - (kd : Int) = c := by have := HC.out; omega
     have hdn := HP5.out.share_done (r := (kd, (roomF kd s.ls).1)) hgrow6.out (by rw [hrk]; exact hown6.out)
     have HPD := Lib.hid hdn.1
     have HBN := Lib.hid (HB.out.trans ((drew_below R _).trans (HB5.out.trans hdn.2)))
     obtain ⟨x', cc, hxe, hx⟩ := shared_at hdn.1.shared (k := s.shared.length) (by simp)
     have g6 := hdn.1.cells.2.2.2.2.2.2.1
     have HQ : Hid ((s.shared ++ [(kd, (roomF kd s.ls).1)])[s.shared.length]'(by simp) = (kd, (roomF kd s.ls).1)) := by refine Lib.hid ?_; simp
     simp only [HQ.out] at hx
     obtain ⟨rfl, -⟩ : A' = some x' ∧ cap' = cc := by injection hxe with e1 e2 e3; exact ⟨e1, e3⟩
     obtain ⟨-, p1⟩ := hx
     clear hxe hdn hown6 hgrow6 d6 f6 d6a f6' c6' e6
     go_wp2_with fail
     go_quiet (fail)
     go_wp2
     go_ret
     refine ⟨.slice (some x') (s.shared.length + 1) cap', ?_⟩
     rw [PlaceP, HE.out]
     exact ⟨rfl, (HPD.out.mono (by omega)).below (drewN_below _ _ _), HBN.out.trans (drewN_below _ _ _)⟩
theorem scI_k (z : Int) : scI z + (kOf z : Int) = 6 := by unfold scI; omega
theorem pbm_shared {n : Nat} {s : PS} (h : PBm n s) (hn : n ≤ 12) : ∀ r ∈ s.shared, r.1 ≤ 6 ∧ r.2 ≤ 100000 := fun r hr => by
 obtain ⟨h1, h2⟩ := h.shared r hr
 have h3 : 2 ^ r.1 ≤ 2 ^ 6 := Nat.pow_le_pow_right (by decide) h1
 have h4 : 2 ^ r.1 * (2 * n + 1) ≤ 2 ^ 6 * (2 * n + 1) := Nat.mul_le_mul_right _ h3
 simp only [show (2 : Nat) ^ 6 = 64 from rfl] at h4
 exact ⟨h1, by omega⟩
theorem place_ns {f : Fld} {s : PS} (hc : f.choice = false) (hp : f.size ≠ 6) : placeF f s = dataF (kOf f.size) s := by
 unfold placeF tagF; rw [if_neg hp, hc]; rfl
theorem place_np {f : Fld} {s : PS} (hc : f.choice = false) (hp : f.size = 6) : placeF f s = ptrF s := by
 unfold placeF tagF; rw [if_pos hp, hc]; rfl
theorem place_cs {f : Fld} {s : PS} (hc : f.choice = true) (hp : f.size ≠ 6) : placeF f s = shareF (kOf f.size) (tagF true s) := by
 unfold placeF; rw [if_neg hp, hc]; rfl
theorem place_cp {f : Fld} {s : PS} (hc : f.choice = true) (hp : f.size = 6) : placeF f s = sharePtrF (tagF true s) := by
 unfold placeF; rw [if_pos hp, hc]; rfl
theorem tag_two {s : PS} (h : s.many + 1 = 2) : tagF true s = { s with many := s.many + 1, ls := (roomF 2 s.ls).2, tag := (roomF 2 s.ls).1 } := by unfold tagF; rw [if_pos rfl, if_pos h]
theorem tag_not {s : PS} (h : s.many + 1 ≠ 2) : tagF true s = { s with many := s.many + 1 } := by unfold tagF; rw [if_pos rfl, if_neg h]
theorem place_n (R g bm n : Nat) (v1 v2 : Value) (s : PS) (sl : List Nat) (N : Nat) (hN : N ≤ 900) (hR : 2 < R) (hbd : PBd n s) (hn : n ≤ 12) (z el : Int) (hz0 : 1 ≤ z) (hz1 : z ≤ 6) (w : World) (ht : Tab w) (h : Pl w R g bm v1 v2 s sl N) :
 Calls Tryz.prog 83 #[.pointer (some ⟨g, 0, none⟩), .agg #[.int .i64 z, .bool false, .int .i64 el]] w (ShareP R g bm v1 (placeF ⟨z, false, el⟩ s).1 (placeF ⟨z, false, el⟩ s).2 sl (N + 12) w) := by
 have HBA := Lib.hid ((Below.refl R w).alloc h.rs (.cells #[.int .i64 z, .bool false, .int .i64 el] 62))
 have HTA := Lib.hid (ht.below HBA.out hR)
 have HH := Lib.hid (h.alloc (.cells #[.int .i64 z, .bool false, .int .i64 el] 62))
 have HBD := Lib.hid hbd
 have hg := h.lt
 clear h ht hbd
 by_cases hp : z = 6
 · subst hp
   have HE := Lib.hid (place_np (f := ⟨6, false, el⟩) (s := s) rfl rfl)
   go_enter Tryz.func83, Tryz.ntmps83
   go_wp2_with fail
   refine (nextPointer_any R g bm v1 v2 s sl N (by have := HBD.out.ptrs; omega) _ HH.out).mono ?_
   rintro e w1 ⟨rfl, hp1, hb1⟩
   have HP1 := Lib.hid hp1
   have HB1 := Lib.hid hb1
   clear hp1 hb1
   go_wp2
   go_ret
   refine ⟨v2, ?_⟩
   rw [PlaceP, HE.out]
   exact ⟨rfl, HP1.out.mono (by omega), HBA.out.trans HB1.out⟩
 · have HE := Lib.hid (place_ns (f := ⟨z, false, el⟩) (s := s) rfl hp)
   have hz6 : (z == 6) = false := by simpa using hp
   have hz5 : z ≤ 5 := by omega
   have HL : Hid (LBd 40 s.ls) := Lib.hid (HBD.out.ls.mono (by omega))
   have HRM := Lib.hid (room_any R g bm v1 v2 s sl N (by omega) HL.out (kOf z) (scI z) _ (scI_k z) (kOf_le z) HH.out)
   clear hp
   go_enter Tryz.func83, Tryz.ntmps83
   go_wp2_with fail
   refine (scaleOf_any z _ HTA.out hz0 hz5).mono ?_
   rintro e w1 ⟨rfl, rfl⟩
   go_wp2_with fail
   refine HRM.out.mono ?_
   rintro e w1 ⟨rfl, hp1, hb1, -⟩
   have HP1 := Lib.hid hp1
   have HB1 := Lib.hid hb1
   clear hp1 hb1
   go_wp2
   go_ret
   refine ⟨v2, ?_⟩
   rw [PlaceP, HE.out]
   exact ⟨rfl, HP1.out.mono (by have := kOf_le z; omega), HBA.out.trans HB1.out⟩
theorem scI3 : scI 3 = 4 := by decide
theorem fr_cells {g bm b : Nat} {w w' : World} (h : Fr g bm w w') (hb : b < w.heap.size) (h1 : b ≠ g) (h2 : b ≠ bm) (i : Nat) : w'.cell? ⟨b, i, none⟩ = w.cell? ⟨b, i, none⟩ := by
 have := h.2 b hb h1 h2
 unfold World.cell?
 rw [this]
theorem Pl.ltm {w : World} {R g bm : Nat} {v1 v2 : Value} {s : PS} {sl : List Nat} {N : Nat} (h : Pl w R g bm v1 v2 s sl N) : bm < w.heap.size := by
 obtain ⟨_, _, _, hm, _⟩ := h.holes
 exact hm.lt
theorem place_c (R g bm n : Nat) (v1 v2 : Value) (s : PS) (sl : List Nat) (N : Nat) (hN : N ≤ 900) (hR : 2 < R) (hbd : PBd n s) (hn : n ≤ 12) (z el : Int) (hz0 : 1 ≤ z) (hz1 : z ≤ 6) (w : World) (ht : Tab w) (h : Pl w R g bm v1 v2 s sl N) :
 Calls Tryz.prog 83 #[.pointer (some ⟨g, 0, none⟩), .agg #[.int .i64 z, .bool true, .int .i64 el]] w (ShareP R g bm v1 (placeF ⟨z, true, el⟩ s).1 (placeF ⟨z, true, el⟩ s).2 sl (N + 12) w) := by
 have hm := hbd.many
 have h1 := (h.set_ 5 (.int .i64 ((s.many : Int) + 1)) { s with many := s.many + 1 } (by simp [planCells]) rfl rfl).alloc (.cells #[.int .i64 z, .bool true, .int .i64 el] 62)
 have hb1 := (h.set_below (Below.refl R w) 5 (.int .i64 ((s.many : Int) + 1))).alloc (by have := h.rs; simpa using this) (.cells #[.int .i64 z, .bool true, .int .i64 el] 62)
 have HTA := Lib.hid (ht.below hb1 hR)
 have HBA := Lib.hid hb1
 have HH := Lib.hid h1
 have HTM := Lib.hid (tag_bd hbd true)
 have hg := h.lt
 have hmb := h.ltm
 have c5 := h.cells.2.2.2.2.2.1
 have f5 := row_free h.row 5
 have hsl := hbd.len
 have HBD := Lib.hid hbd
 have HSH := Lib.hid (pbm_shared (tag_bd hbd true) hn)
 clear h ht hbd h1 hb1
 have hkz := kOf_le z
 by_cases hmt : s.many + 1 = 2
 · have HT2 := Lib.hid (tag_two hmt)
   have hm1 : ((s.many : Int) + 1 == 2) = true := by simp; omega
   have HL : Hid (LBd 40 s.ls) := Lib.hid (HBD.out.ls.mono (by omega))
   have HRM := Lib.hid (room_any R g bm v1 v2 { s with many := s.many + 1 } sl N (by omega) HL.out 2 4 _ (by decide) (by decide) HH.out)
   have HTB := Lib.hid (scaleOf_any 3 _ HTA.out (by decide) (by decide))
   rw [scI3] at HTB
   clear hmt
   go_enter Tryz.func83, Tryz.ntmps83
   go_wp2_with fail
   refine HTB.out.mono ?_
   rintro e w1 ⟨rfl, rfl⟩
   go_wp2_with fail
   refine HRM.out.mono ?_
   rintro e w2 ⟨rfl, hp2, hb2, hfr2⟩
   have h3 := hp2.set_ 3 (.int .i64 ((roomF 2 s.ls).1 : Int)) { s with many := s.many + 1, ls := (roomF 2 s.ls).2, tag := (roomF 2 s.ls).1 } (by simp [planCells]) rfl rfl
   rw [← HT2.out] at h3
   have hb3 := hp2.set_below (HBA.out.trans hb2) 3 (.int .i64 ((roomF 2 s.ls).1 : Int))
   have f3 := row_free hp2.row 3
   have d3 := hp2.cells.2.2.2.1
   have HP3 := Lib.hid h3
   have HB3 := Lib.hid hb3
   have HT3 := Lib.hid (HTA.out.below ((Below.refl R _).trans (hp2.set_below hb2 3 (.int .i64 ((roomF 2 s.ls).1 : Int)))) hR)
   have q : ∀ i, w2.cell? ⟨w.heap.size, i, none⟩ = (#[Value.int .i64 z, .bool true, .int .i64 el] : Array Value)[i]? := fun i => by
    rw [fr_cells hfr2 (by simp) (by omega) (by omega)]
    rw [show w.heap.size = (w.setCell ⟨g, 5, none⟩ (.int .i64 ((s.many : Int) + 1))).heap.size by simp [World.setCell]]
    exact cell_of_row _ _ i _ _ _ (heap_alloc_new _ _)
   have q0 : w2.cell? ⟨w.heap.size, 0, none⟩ = some (.int .i64 z) := q 0
   have q1 : w2.cell? ⟨w.heap.size, 1, none⟩ = some (.bool true) := q 1
   have hlt2 : w.heap.size < w2.heap.size := by have := hfr2.1; simp at this; omega
   have hne : ¬ w.heap.size = g := by omega
   clear hp2 hb2 h3 hb3 hfr2 q
   by_cases hp : z = 6
   · subst hp
     have HE := Lib.hid (place_cp (f := ⟨6, true, el⟩) (s := s) rfl rfl)
     have HSP := Lib.hid (sharedPointer_any R g bm v1 v2 (tagF true s) sl (N + 2) (by have := HTM.out.ptrs; omega) _ HP3.out)
     go_wp2_with fail
     refine HSP.out.mono ?_
     rintro e w4 ⟨rfl, hp4, hb4⟩
     have HP4 := Lib.hid hp4
     have HB4 := Lib.hid hb4
     clear hp4 hb4
     go_wp2
     go_ret
     refine ⟨v2, ?_⟩
     rw [PlaceP, HE.out]
     exact ⟨rfl, HP4.out.mono (by omega), HB3.out.trans HB4.out⟩
   · have HE := Lib.hid (place_cs (f := ⟨z, true, el⟩) (s := s) rfl hp)
     have hz6 : (z == 6) = false := by simpa using hp
     have hz5 : z ≤ 5 := by omega
     have HL3 : Hid (LBd 40 (tagF true s).ls) := Lib.hid (HTM.out.ls.mono (by omega))
     have HSP := Lib.hid (sharedRoom_any R g bm v1 v2 (tagF true s) sl (N + 2) (by omega) HL3.out (by have := HTM.out.len; omega) HSH.out (kOf z) (scI z) (scI_k z) (kOf_le z) _ HP3.out)
     have HSC := Lib.hid (scaleOf_any z _ HT3.out hz0 hz5)
     clear hp
     go_wp2_with fail
     refine HSC.out.mono ?_
     rintro e w4 ⟨rfl, rfl⟩
     go_wp2_with fail
     refine HSP.out.mono ?_
     rintro e w4 ⟨v2', rfl, hp4, hb4⟩
     have HP4 := Lib.hid hp4
     have HB4 := Lib.hid hb4
     clear hp4 hb4
     go_wp2
     go_ret
     refine ⟨v2', ?_⟩
     rw [PlaceP, HE.out]
     exact ⟨rfl, HP4.out.mono (by omega), HB3.out.trans HB4.out⟩
 · have HT2 := Lib.hid (tag_not hmt)
   have hm1 : ((s.many : Int) + 1 == 2) = false := by simp; omega
   have HH2 : Hid (Pl ((w.setCell ⟨g, 5, none⟩ (.int .i64 ((s.many : Int) + 1))).alloc (.cells #[.int .i64 z, .bool true, .int .i64 el] 62)) R g bm v1 v2 (tagF true s) sl N) := by
    refine Lib.hid ?_
    rw [HT2.out]
    exact HH.out
   clear hmt
   by_cases hp : z = 6
   · subst hp
     have HE := Lib.hid (place_cp (f := ⟨6, true, el⟩) (s := s) rfl rfl)
     have HSP := Lib.hid (sharedPointer_any R g bm v1 v2 (tagF true s) sl N (by have := HTM.out.ptrs; omega) _ HH2.out)
     go_enter Tryz.func83, Tryz.ntmps83
     go_wp2_with fail
     refine HSP.out.mono ?_
     rintro e w4 ⟨rfl, hp4, hb4⟩
     have HP4 := Lib.hid hp4
     have HB4 := Lib.hid hb4
     clear hp4 hb4
     go_wp2
     go_ret
     refine ⟨v2, ?_⟩
     rw [PlaceP, HE.out]
     exact ⟨rfl, HP4.out.mono (by omega), HBA.out.trans HB4.out⟩
   · have HE := Lib.hid (place_cs (f := ⟨z, true, el⟩) (s := s) rfl hp)
     have hz6 : (z == 6) = false := by simpa using hp
     have hz5 : z ≤ 5 := by omega
     have HL3 : Hid (LBd 40 (tagF true s).ls) := Lib.hid (HTM.out.ls.mono (by omega))
     have HSP := Lib.hid (sharedRoom_any R g bm v1 v2 (tagF true s) sl N (by omega) HL3.out (by have := HTM.out.len; omega) HSH.out (kOf z) (scI z) (scI_k z) (kOf_le z) _ HH2.out)
     have HSC := Lib.hid (scaleOf_any z _ HTA.out hz0 hz5)
     clear hp
     go_enter Tryz.func83, Tryz.ntmps83
     go_wp2_with fail
     refine HSC.out.mono ?_
     rintro e w4 ⟨rfl, rfl⟩
     go_wp2_with fail
     refine HSP.out.mono ?_
     rintro e w4 ⟨v2', rfl, hp4, hb4⟩
     have HP4 := Lib.hid hp4
     have HB4 := Lib.hid hb4
     clear hp4 hb4
     go_wp2
     go_ret
     refine ⟨v2', ?_⟩
     rw [PlaceP, HE.out]
     exact ⟨rfl, HP4.out.mono (by omega), HBA.out.trans HB4.out⟩
theorem place_any (R g bm n : Nat) (v1 v2 : Value) (s : PS) (sl : List Nat) (N : Nat) (hN : N ≤ 900) (hR : 2 < R) (hbd : PBd n s) (hn : n ≤ 12) (z : Int) (c : Bool) (el : Int) (hz0 : 1 ≤ z) (hz1 : z ≤ 6) (w : World) (ht : Tab w) (h : Pl w R g bm v1 v2 s sl N) :
 Calls Tryz.prog 83 #[.pointer (some ⟨g, 0, none⟩), .agg #[.int .i64 z, .bool c, .int .i64 el]] w (ShareP R g bm v1 (placeF ⟨z, c, el⟩ s).1 (placeF ⟨z, c, el⟩ s).2 sl (N + 12) w) := by
 cases c
 · exact place_n R g bm n v1 v2 s sl N hN hR hbd hn z el hz0 hz1 w ht h
 · exact place_c R g bm n v1 v2 s sl N hN hR hbd hn z el hz0 hz1 w ht h
theorem infoSlot : (Tryz.prog.info? slotT).map (fun i => (i.zero, i.size, i.bytes)) = some (some (.agg #[.int .i64 0]), 1, 8) := by kernel_rfl
theorem slotCells_snoc (l : List Nat) (a : Nat) : slotCells (l ++ [a]) = slotCells l ++ [.int .i64 (a : Int)] := by simp [slotCells]
theorem Pl.slot_done {w w6 : World} {R g bm : Nat} {v1 v2 v' : Value} {s : PS} {sl : List Nat} {N : Nat} {o : Obj} {a : Nat} (h : Pl w R g bm v1 v2 s sl N) (hg : (w.alloc o).grownBy w6 v1.ownBlock)
 (hv : w6.ownsRow R slotT 1 v' (sl.length + 1) (slotCells sl ++ [.int .i64 (a : Int)])) :
 Pl (w6.setCell ⟨g, 2, none⟩ v') R g bm v' v2 s (sl ++ [a]) N ∧ Below R w (w6.setCell ⟨g, 2, none⟩ v') := by
 have hrow := h.grown_row h.slots (by decide) hg
 have hs := grown_set w6 g 2 v'
 have hgn : w.grownBy w6 v1.ownBlock := (World.grownBy_alloc w o _).trans hg
 have hsl : w6.ownsRow R roomT 2 v2 s.shared.length (roomCells s.shared) := by
  refine h.shared.kept hgn ?_
  cases hb : v1.ownBlock with
  | none => cases hv1 : v2.ownBlock <;> simp
  | some x => exact .inr (own_not_block h.shared h.slots (by decide) hb)
 have hho := holes_grown h.holes hgn (map_ne_own h.holes h.slots)
 refine ⟨⟨?_, h.rg, h.rb, ?_, hsl.kept hs (.inr (own_ne_blk hsl hrow (by decide))), holes_grown hho hs (fun e => h.gm (by injection e with e; exact e.symm))⟩, ?_⟩
 · rw [row_set hrow]; rfl
 · rw [slotCells_snoc, List.length_append]
   exact hv.kept hs (.inr (own_ne_blk hv hrow (by decide)))
 · exact (grown_below h.rs h.slots hg).setCell (p := ⟨g, 2, none⟩) h.rg _
def layV (l : List Fld) (v1 : Value) : Value := .agg #[.int .i64 ((layF l ps0).2.ls.words : Int), .int .i64 ((layF l ps0).2.ptrs : Int), v1, .int .i64 (layF l ps0).2.tag]
def LayP (l : List Fld) (w : World) (e : Ending) (w' : World) : Prop :=
 (fldsOk l = true ∧ ∃ v1, e = .returned (.tuple #[layV l v1, .bool true]) ∧ w'.ownsRow w.heap.size slotT 1 v1 l.length (slotCells (layF l ps0).1) ∧ Below w.heap.size w w') ∨
 (fldsOk l = false ∧ e = .returned (.tuple #[.agg #[.int .i64 0, .int .i64 0, .slice none 0 0, .int .i64 0], .bool false]) ∧ Below w.heap.size w w')
theorem fldsOk_at {l : List Fld} (h : fldsOk l = true) (k : Nat) (hk : k < l.length) : 1 ≤ (l[k]).size ∧ (l[k]).size ≤ 6 := by
 unfold fldsOk at h
 rw [Bool.and_eq_true, List.all_eq_true] at h
 have := h.1 l[k] (List.getElem_mem hk)
 unfold fldOk at this
 rw [Bool.and_eq_true] at this
 exact inB_out this.1
theorem fldsOk_len {l : List Fld} (h : fldsOk l = true) : l.length ≤ 12 := by
 unfold fldsOk at h
 rw [Bool.and_eq_true] at h
 simpa using h.2
theorem own_weak {w : World} {B B' e z n : Nat} {v : Value} {xs : List Value} (h : w.ownsRow B e z v n xs) (hb : B' ≤ B) : w.ownsRow B' e z v n xs := by
 refine ⟨h.1, ?_⟩
 rcases h.2 with hn | ⟨g, cap, cur, hv, hB, r⟩
 · exact .inl hn
 · exact .inr ⟨g, cap, cur, hv, Nat.le_trans hb hB, r⟩
theorem Pl.made (w : World) (R : Nat) (hR : R ≤ w.heap.size) :
 Pl ((w.alloc (.map #[] 0)).alloc (.cells #[.int .i64 0, .int .i64 0, .slice none 0 0, .int .i64 (-1), .map (some w.heap.size), .int .i64 0, .slice none 0 0, .int .i64 (-1)] planT)) R (w.heap.size + 1) w.heap.size (.slice none 0 0) (.slice none 0 0) ps0 [] 0 := by
 refine ⟨?_, by omega, hR, World.ownsRow_nil _ _ _ _, World.ownsRow_nil _ _ _ _, 0, .map [], Nat.le_refl _, (World.ownsMap_made w _ _ _).alloc _, holeD_empty⟩
 have := heap_alloc_new (w.alloc (.map #[] 0)) (.cells #[.int .i64 0, .int .i64 0, .slice none 0 0, .int .i64 (-1), .map (some w.heap.size), .int .i64 0, .slice none 0 0, .int .i64 (-1)] planT)
 rw [show (w.alloc (.map #[] 0)).heap.size = w.heap.size + 1 by simp] at this
 exact this
theorem grown_trans {a b c : World} {r : Option Nat} (h : a.grownBy b r) (k : b.grownBy c r) : a.grownBy c r :=
 ⟨k.os.trans h.os, k.tape.trans h.tape, k.output.trans h.output, Nat.le_trans h.size k.size, fun x hx hn => (k.block x (Nat.lt_of_lt_of_le hx h.size) hn).trans (h.block x hx hn)⟩
theorem store4 {w1 : World} {b : Nat} {T : TypeId} {a0 a1 a2 a3 : Value} (h : w1.heap[b]? = some (.cells #[a0, a1, a2, a3] T (0, 0))) (v0 v1 v2 v3 : Value) :
 ∃ wf, ((((w1.setCell ⟨b, 0, none⟩ v0).setCell ⟨b, 1, none⟩ v1).setCell ⟨b, 2, none⟩ v2).setCell ⟨b, 3, none⟩ v3) = wf ∧ wf.heap[b]? = some (.cells #[v0, v1, v2, v3] T (0, 0)) ∧ w1.grownBy wf (some b) := by
 have h3 := row_set (row_set (row_set (row_set h 0 v0) 1 v1) 2 v2) 3 v3
 exact ⟨_, rfl, by simpa using h3, grown_trans (grown_trans (grown_trans (grown_set _ b 0 v0) (grown_set _ b 1 v1)) (grown_set _ b 2 v2)) (grown_set _ b 3 v3)⟩
theorem cells4 {w1 : World} {b : Nat} {T : TypeId} {a0 a1 a2 a3 : Value} (h : w1.heap[b]? = some (.cells #[a0, a1, a2, a3] T (0, 0))) :
 w1.cell? ⟨b, 0, none⟩ = some a0 ∧ w1.cell? ⟨b, 1, none⟩ = some a1 ∧ w1.cell? ⟨b, 2, none⟩ = some a2 ∧ w1.cell? ⟨b, 3, none⟩ = some a3 := by
 refine ⟨?_, ?_, ?_, ?_⟩ <;> (rw [cell_of_row _ _ _ _ _ _ h]; rfl)
theorem grown_below_b {B b : Nat} {w w1 w2 : World} (h : Below B w w1) (hg : w1.grownBy w2 (some b)) (hb : B ≤ b) (hs : B ≤ w1.heap.size) : Below B w w2 :=
 h.trans ⟨hg.os, hg.tape, hg.output, hg.size, fun k hk => hg.block k (by omega) (fun e => by injection e with e; omega)⟩
theorem Flds.at2 {w : World} {A : Option Addr} {l : List Fld} (h : Flds w A l) {k : Nat} (hk : k < l.length) : ∃ x, A = some x ∧ x.block < w.heap.size ∧ FldAt w (x.add (k * 3)) l[k] := by
 rcases h with h | ⟨x, rfl, hx, hc⟩
 · rw [h] at hk; exact absurd hk (Nat.not_lt_zero _)
 · exact ⟨x, rfl, hx, hc k _ (List.getElem?_eq_getElem hk)⟩
theorem Tab.drew {w : World} (h : Tab w) : Tab w.drew := ⟨h.t0, h.t3, h.t4, h.t5, h.t6⟩
theorem lay_take (l : List Fld) (k : Nat) (h : k < l.length) : layF (l.take (k + 1)) ps0 = ((layF (l.take k) ps0).1 ++ [(placeF l[k] (layF (l.take k) ps0).2).1], (placeF l[k] (layF (l.take k) ps0).2).2) := by
 rw [List.take_succ_eq_append_getElem h, lay_snoc]
theorem lay_pbd (l : List Fld) (k : Nat) (h : k ≤ l.length) : PBd k (layF (l.take k) ps0).2 := by
 have := lay_bd (l.take k) pbd0
 rw [List.length_take, Nat.min_eq_left h, Nat.zero_add] at this
 exact this
theorem lay_len (l : List Fld) (k : Nat) (h : k ≤ l.length) : (layF (l.take k) ps0).1.length = k := by
 rw [lay_length, List.length_take, Nat.min_eq_left h]
end Go.Proofs.YtehhbbdaeonebaaGreatDoor
