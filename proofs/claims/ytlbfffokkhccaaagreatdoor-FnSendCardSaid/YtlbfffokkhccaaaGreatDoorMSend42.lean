/- Texts of the proof of the law FnSend, side by side: part 42. -/
import Derived.Test.YtlbfffokkhccaaaGreatDoorMSend41
set_option maxHeartbeats 8000000
set_option maxRecDepth 100000
namespace Go.Proofs.YtlbfffokkhccaaaGreatDoor
open Go.RowKit Go.Deep
theorem Lits.newN (w : World) (vs : Array Value) (t : TypeId) (fr : Nat × Nat) {g : Nat} (hg : w.heap.size = g) : Lits (w.alloc (.cells vs t fr)) g vs.toList := hg ▸ Lits.new w vs t fr
theorem dKT : ∀ d, d ≤ 4 → dK d ≤ 12950 ∧ dT d ≤ 259259
 | 0, _ => by decide
 | 1, _ => by decide
 | 2, _ => by decide
 | 3, _ => by decide
 | 4, _ => by decide
 | d + 5, h => by omega
def AnB (b0 b : Nat) (w : World) : Nat → Prop := fun j => (b0 < j ∧ j ≠ b) ∧ Clean w j
theorem AnB.low {w w' : World} {b0 b M : Nat} {n : Nd} {h : Hd} (hn : NdAt w (AnB b0 b w) M n h) (hb : Below w.heap.size w w') : NdAt w' (AnB b0 b w') M n h := (hn.below hb).weak (fun _k hk => ⟨hk.1, clean_low hk.2 hb⟩)
theorem AnB.other {w w' : World} {b0 b M : Nat} {n : Nd} {h : Hd} (hn : NdAt w (AnB b0 b w) M n h) (hk : ∀ j, j ≠ b → w'.heap[j]? = w.heap[j]?) : NdAt w' (AnB b0 b w') M n h := hn.map' (fun k _ hs => ⟨hs.1, clean_of hs.2 (hk k hs.1.2)⟩) (fun _p _ _ hs hc => hc.block (hk _ hs.1.2))
theorem AnB.picked {w w' : World} {b0 b M R m : Nat} {n : Nd} {h : Hd} (hn : NdAt w (AnB b0 b w) M n h) (hp : Picked w R m w') (hR : R ≤ b0) : NdAt w' (AnB b0 b w') M n h := hn.map' (fun k hk hs => ⟨hs.1, clean_of hs.2 (hp.2.block k hk (by have := hs.1.1; omega))⟩) (fun p _ _ hs hc => hc.block (hp.2.block _ hc.lt (by have := hs.1.1; omega)))
def AnS (b b0 R M T k : Nat) (w w' : World) : Prop :=
 ∃ (n : Nd) (h : Hd), w'.heap[b]? = some (.cells #[.int .i64 n.kind, .string n.data, .slice h.A n.ptrs.length h.a, .int .i64 n.size, .int .i64 n.count, .slice h.B n.items.length h.b] nodeT (0, 0)) ∧ w'.heap[b0]? = some (.cells #[.int .i64 0, .string { data := #[] }, .slice none 0 0, .int .i64 0, .int .i64 0, .slice none 0 0] nodeT (0, 0)) ∧ NdAt w' (AnB b0 b w') M n h ∧ TB M n T ∧ Picked w R k w'
theorem AnS.pick {b b0 R M T k m : Nat} {w w1 w2 : World} (h : AnS b b0 R M T k w w1) (hp : Picked w1 R m w2) (hR : R < w.heap.size) (h0 : w.heap.size ≤ b0) (hb : b0 < b) : AnS b b0 R M T m w w2 := by
 obtain ⟨n, h, hx, hz, hn, ht, hk⟩ := h
 exact ⟨n, h, pick_rowN hx hp (by omega), pick_rowN hz hp (by omega), AnB.picked hn hp (by omega), ht, hk.then hp⟩
theorem AnS.mono {b b0 R M T k M' T' k' : Nat} {w w1 : World} (h : AnS b b0 R M T k w w1) (hM : M ≤ M') (hT : T ≤ T') (hk : k ≤ k') : AnS b b0 R M' T' k' w w1 := by
 obtain ⟨n, h, hx, hz, hn, ht, hp⟩ := h
 exact ⟨n, h, hx, hz, hn.mono hM, ht.mono hn hM hT, hp.mono hk⟩
theorem AnS.put {b b0 R M T k : Nat} {w w1 : World} {cs : Array Value} (n : Nd) (h : Hd) (hx : w1.heap[b]? = some (.cells cs nodeT (0, 0))) (hs : cs.size = 6) (hz : w1.heap[b0]? = some (.cells #[.int .i64 0, .string { data := #[] }, .slice none 0 0, .int .i64 0, .int .i64 0, .slice none 0 0] nodeT (0, 0))) (hn : NdAt w1 (AnB b0 b w1) M n h) (ht : TB M n T) (hp : Picked w R k w1) (hR : R < w.heap.size) (h0 : w.heap.size ≤ b0) (hb : b0 < b) :
 ∃ wf, ((((((w1.setCell ⟨b, 0, none⟩ (.int .i64 n.kind)).setCell ⟨b, 1, none⟩ (.string n.data)).setCell ⟨b, 2, none⟩ (.slice h.A n.ptrs.length h.a)).setCell ⟨b, 3, none⟩ (.int .i64 n.size)).setCell ⟨b, 4, none⟩ (.int .i64 n.count)).setCell ⟨b, 5, none⟩ (.slice h.B n.items.length h.b)) = wf ∧ AnS b b0 R M T k w wf := by
 obtain ⟨l, rfl⟩ : ∃ l, cs = ⟨l⟩ := ⟨cs.toList, rfl⟩
 match l, hs with
 | [a0, a1, a2, a3, a4, a5], _ =>
  obtain ⟨wf, hwf, hrw, hpw, huw⟩ := store6 hx hp hR (by omega) (.int .i64 n.kind) (.string n.data) (.slice h.A n.ptrs.length h.a) (.int .i64 n.size) (.int .i64 n.count) (.slice h.B n.items.length h.b)
  have hk : ∀ j, j ≠ b → wf.heap[j]? = w1.heap[j]? := by
   intro j hj
   rw [← hwf]
   simp [World.setCell, Array.getElem?_modify, Ne.symm hj]
  exact ⟨wf, hwf, n, h, hrw, (hk b0 (by omega)).trans hz, AnB.other hn hk, ht, hpw⟩
theorem AnS.set {b b0 R M T k : Nat} {w w1 : World} {n : Nd} {h : Hd} (n' : Nd) (i : Nat) (u : Value) (hx : w1.heap[b]? = some (.cells #[.int .i64 n.kind, .string n.data, .slice h.A n.ptrs.length h.a, .int .i64 n.size, .int .i64 n.count, .slice h.B n.items.length h.b] nodeT (0, 0))) (hz : w1.heap[b0]? = some (.cells #[.int .i64 0, .string { data := #[] }, .slice none 0 0, .int .i64 0, .int .i64 0, .slice none 0 0] nodeT (0, 0))) (hn : NdAt w1 (AnB b0 b w1) M n h) (hp : Picked w R k w1) (hR : R < w.heap.size) (h0 : w.heap.size ≤ b0) (hb : b0 < b)
 (hs : (#[.int .i64 n.kind, .string n.data, .slice h.A n.ptrs.length h.a, .int .i64 n.size, .int .i64 n.count, .slice h.B n.items.length h.b]).setIfInBounds i u = #[.int .i64 n'.kind, .string n'.data, .slice h.A n'.ptrs.length h.a, .int .i64 n'.size, .int .i64 n'.count, .slice h.B n'.items.length h.b]) (h1 : n'.ptrs = n.ptrs) (h2 : n'.items = n.items) (h3 : n'.data.size ≤ maxLen) (h4 : TB M n' T) : AnS b b0 R M T k w (w1.setCell ⟨b, i, none⟩ u) := by
 have hk : ∀ j, j ≠ b → (w1.setCell ⟨b, i, none⟩ u).heap[j]? = w1.heap[j]? := by
  intro j hj
  simp [World.setCell, Array.getElem?_modify, Ne.symm hj]
 refine ⟨n', h, by rw [← hs]; exact row_setN hx i u, (hk b0 (by omega)).trans hz, ?_, h4, picked_storeN hp hR (by omega) i u⟩
 have := AnB.other hn hk
 exact ⟨h3, h1 ▸ this.2.1, h2 ▸ this.2.2⟩
theorem AnS.fin {b b0 R M T k : Nat} {w w1 : World} {n : Nd} {h : Hd} (hz : w1.heap[b0]? = some (.cells #[.int .i64 0, .string { data := #[] }, .slice none 0 0, .int .i64 0, .int .i64 0, .slice none 0 0] nodeT (0, 0))) (hn : NdAt w1 (AnB b0 b w1) M n h) (ht : TB M n T) (hp : Picked w R k w1) (hR : R < w.heap.size) (h0 : w.heap.size = b0) :
 ∃ wf, ((((((w1.setCell ⟨b0, 0, none⟩ (.int .i64 n.kind)).setCell ⟨b0, 1, none⟩ (.string n.data)).setCell ⟨b0, 2, none⟩ (.slice h.A n.ptrs.length h.a)).setCell ⟨b0, 3, none⟩ (.int .i64 n.size)).setCell ⟨b0, 4, none⟩ (.int .i64 n.count)).setCell ⟨b0, 5, none⟩ (.slice h.B n.items.length h.b)) = wf ∧ wf.heap[b0]? = some (.cells #[.int .i64 n.kind, .string n.data, .slice h.A n.ptrs.length h.a, .int .i64 n.size, .int .i64 n.count, .slice h.B n.items.length h.b] nodeT (0, 0)) ∧ NdP M T R k w (.returned (.agg #[.int .i64 n.kind, .string n.data, .slice h.A n.ptrs.length h.a, .int .i64 n.size, .int .i64 n.count, .slice h.B n.items.length h.b])) wf := by
 obtain ⟨wf, hwf, hrw, hpw, huw⟩ := store6 hz hp hR (by omega) (.int .i64 n.kind) (.string n.data) (.slice h.A n.ptrs.length h.a) (.int .i64 n.size) (.int .i64 n.count) (.slice h.B n.items.length h.b)
 refine ⟨wf, hwf, hrw, n, h, rfl, ?_, ht, hpw⟩
 have h1 : NdAt w1 (FromC w1 (b0 + 1)) M n h := hn.weak (fun _ hk => ⟨hk.1.1, hk.2⟩)
 exact (h1.uponC huw).fromC (by omega)
theorem AnS.put' {b b0 R M T k : Nat} {w w1 : World} {a0 a1 a2 a3 a4 a5 : Value} (n : Nd) (h : Hd) (v0 v1 v2 v3 v4 v5 : Value) (hv : (#[v0, v1, v2, v3, v4, v5] : Array Value) = #[.int .i64 n.kind, .string n.data, .slice h.A n.ptrs.length h.a, .int .i64 n.size, .int .i64 n.count, .slice h.B n.items.length h.b]) (hx : w1.heap[b]? = some (.cells #[a0, a1, a2, a3, a4, a5] nodeT (0, 0))) (hz : w1.heap[b0]? = some (.cells #[.int .i64 0, .string { data := #[] }, .slice none 0 0, .int .i64 0, .int .i64 0, .slice none 0 0] nodeT (0, 0))) (hn : NdAt w1 (AnB b0 b w1) M n h) (ht : TB M n T) (hp : Picked w R k w1) (hR : R < w.heap.size) (h0 : w.heap.size ≤ b0) (hb : b0 < b) :
 AnS b b0 R M T k w ((((((w1.setCell ⟨b, 0, none⟩ v0).setCell ⟨b, 1, none⟩ v1).setCell ⟨b, 2, none⟩ v2).setCell ⟨b, 3, none⟩ v3).setCell ⟨b, 4, none⟩ v4).setCell ⟨b, 5, none⟩ v5) := by
 obtain ⟨wf, hwf, hrw, hpw, huw⟩ := store6 hx hp hR (by omega) v0 v1 v2 v3 v4 v5
 rw [hwf]
 have hk : ∀ j, j ≠ b → wf.heap[j]? = w1.heap[j]? := by
  intro j hj
  rw [← hwf]
  simp [World.setCell, Array.getElem?_modify, Ne.symm hj]
 exact ⟨n, h, hv ▸ hrw, (hk b0 (by omega)).trans hz, AnB.other hn hk, ht, hpw⟩
theorem AnS.putE {b b0 R M T k : Nat} {w w1 : World} {a0 a1 a2 a3 a4 a5 : Value} (n : Nd) (h : Hd) (v0 v1 v2 v3 v4 v5 : Value) (hv : (#[v0, v1, v2, v3, v4, v5] : Array Value) = #[.int .i64 n.kind, .string n.data, .slice h.A n.ptrs.length h.a, .int .i64 n.size, .int .i64 n.count, .slice h.B n.items.length h.b]) (hx : w1.heap[b]? = some (.cells #[a0, a1, a2, a3, a4, a5] nodeT (0, 0))) (hz : w1.heap[b0]? = some (.cells #[.int .i64 0, .string { data := #[] }, .slice none 0 0, .int .i64 0, .int .i64 0, .slice none 0 0] nodeT (0, 0))) (hn : NdAt w1 (AnB b0 b w1) M n h) (ht : TB M n T) (hp : Picked w R k w1) (hR : R < w.heap.size) (h0 : w.heap.size ≤ b0) (hb : b0 < b) :
 ∃ wq, ((((((w1.setCell ⟨b, 0, none⟩ v0).setCell ⟨b, 1, none⟩ v1).setCell ⟨b, 2, none⟩ v2).setCell ⟨b, 3, none⟩ v3).setCell ⟨b, 4, none⟩ v4).setCell ⟨b, 5, none⟩ v5) = wq ∧ AnS b b0 R M T k w wq := ⟨_, rfl, AnS.put' n h v0 v1 v2 v3 v4 v5 hv hx hz hn ht hp hR h0 hb⟩
theorem an_pick {b b0 R M k m : Nat} {w w1 w2 w3 : World} {n : Nd} {h : Hd} (hx : w1.heap[b]? = some (.cells #[.int .i64 n.kind, .string n.data, .slice h.A n.ptrs.length h.a, .int .i64 n.size, .int .i64 n.count, .slice h.B n.items.length h.b] nodeT (0, 0))) (hz : w1.heap[b0]? = some (.cells #[.int .i64 0, .string { data := #[] }, .slice none 0 0, .int .i64 0, .int .i64 0, .slice none 0 0] nodeT (0, 0))) (hn : NdAt w1 (AnB b0 b w1) M n h) (hp : Picked w R k w1) (hbl : Below w1.heap.size w1 w2) (hp3 : Picked w2 R m w3) (hR : R < w.heap.size) (h0 : w.heap.size ≤ b0) (hb : b0 < b) :
 w3.heap[b]? = some (.cells #[.int .i64 n.kind, .string n.data, .slice h.A n.ptrs.length h.a, .int .i64 n.size, .int .i64 n.count, .slice h.B n.items.length h.b] nodeT (0, 0)) ∧ w3.heap[b0]? = some (.cells #[.int .i64 0, .string { data := #[] }, .slice none 0 0, .int .i64 0, .int .i64 0, .slice none 0 0] nodeT (0, 0)) ∧ NdAt w3 (AnB b0 b w3) M n h ∧ Picked w R m w3 :=
 ⟨pick_rowN ((hbl.block _ (row_lt hx)).trans hx) hp3 (by omega), pick_rowN ((hbl.block _ (row_lt hz)).trans hz) hp3 (by omega), AnB.picked (AnB.low hn hbl) hp3 (by omega), (hp.below hbl).then hp3⟩
theorem drew_below (w : World) : Below w.heap.size w w.drew := ⟨rfl, rfl, rfl, Nat.le_refl _, fun _ _ => rfl⟩
theorem rd_lit {w : World} {R n : Nat} (h : Rd w R n) (o : Obj) : Rd (w.drew.alloc o) R n := (h.below (drew_below w)).below ((Below.refl _ _).alloc (Nat.le_refl _) _)
theorem l13AnyNode_any (R n0 : Nat) (w : World) (h : Rd w R n0) (hn : n0 ≤ 100000) :
 Calls Tryz.prog 30 #[.pointer (some ⟨R, 0, none⟩)] w (NdP 18 300000 R (n0 + 13000) w) := by
 have hRw := h.lt
 go_enter Tryz.func30, Tryz.ntmps30
 go_wp2_with fail
 have HQ0 := Lib.hid (h.self.below ((Below.refl w.heap.size w).alloc (Nat.le_refl _) (.cells #[.int .i64 0, .string { data := #[] }, .slice none 0 0, .int .i64 0, .int .i64 0, .slice none 0 0] nodeT)))
 have HR0 := Lib.hid (heap_alloc_new w (.cells #[.int .i64 0, .string { data := #[] }, .slice none 0 0, .int .i64 0, .int .i64 0, .slice none 0 0] nodeT))
 clear h
 refine (one_any R n0 (w.heap.size + 1) 5 5 (fun z => 1 ≤ z ∧ z ≤ 4) _ _ (by exact HQ0.out.1.below ((Below.refl _ _).alloc (Nat.le_refl _) _)) (by omega) (by exact Lits.newN _ _ _ _ (by simp)) (by
  intro v hv
  simp at hv
  rcases hv with rfl | rfl | rfl | rfl | rfl
  all_goals exact ⟨_, rfl, by omega⟩) (by omega) (by simp) (by omega) (by omega)).mono ?_
 rintro e w1 ⟨x, ⟨hx0, hx1⟩, rfl, hp1⟩
 have HQ1 := Lib.hid ((HQ0.out.below ((Below.refl _ _).alloc (Nat.le_refl _) _)).then hp1)
 have HR1 := Lib.hid (pick_rowN (heap_alloc_keep HR0.out _) hp1 (by omega))
 clear hp1
 obtain ⟨d, rfl⟩ := Int.eq_ofNat_of_zero_le (show 0 ≤ x by omega)
 have hd4 : d ≤ 4 := by omega
 obtain ⟨hdk, hdt⟩ := dKT d hd4
 have HC := Lib.hid (drN_any d hd4 R (n0 + 1) w1 HQ1.out.1 (by omega))
 unfold NdP at HC
 clear hx0 hx1
 go_wp2_with fail
 refine HC.out.mono ?_
 rintro e w2 ⟨y, hy, rfl, hny, hty, hp2⟩
 have hb2 : w.heap.size < w2.heap.size := by have := row_lt HR1.out; have := hp2.2.size; omega
 have hs1 : w.heap.size < w1.heap.size := row_lt HR1.out
 obtain ⟨i0, hi, hz0, hz1, hz2⟩ := info_parts infoNd
 have HA2 : Hid (AnS w2.heap.size w.heap.size R 8 259259 (n0 + 1 + dK d) w (w2.alloc (.cells #[.int .i64 y.kind, .string y.data, .slice hy.A y.ptrs.length hy.a, .int .i64 y.size, .int .i64 y.count, .slice hy.B y.items.length hy.b] nodeT))) := by
  have hbl := (Below.refl w2.heap.size w2).alloc (Nat.le_refl _) (.cells #[.int .i64 y.kind, .string y.data, .slice hy.A y.ptrs.length hy.a, .int .i64 y.size, .int .i64 y.count, .slice hy.B y.items.length hy.b] nodeT)
  have hn8 : NdAt w2 (FromC w2 w1.heap.size) 8 y hy := hny.mono (by omega)
  refine Lib.hid ⟨y, hy, heap_alloc_new w2 _, heap_alloc_keep (pick_rowN HR1.out hp2 (by omega)) _, ?_, hty.mono hny (by omega) (by omega), (HQ1.out.then hp2).below hbl⟩
  exact hn8.map' (fun k h1 h2 => ⟨⟨by have := h2.1; omega, by omega⟩, clean_low h2.2 hbl⟩) (fun p n h hs hc => cell_below hbl p n h hc)
 clear hny hty hp2 HC HR1 HQ1 HR0 HQ0
 go_wp2_with fail
 obtain ⟨_, _, _, _, _, _, hpq⟩ := id HA2.out
 refine (pick_any R (n0 + 1 + dK d) _ _ hpq.1 (by omega)).mono ?_
 rintro e w3 ⟨p, ⟨hp0, hp1⟩, rfl, hp3⟩
 have HA3 := Lib.hid ((HA2.out.pick hp3 hRw (Nat.le_refl _) hb2).mono (show 8 ≤ 8 by omega) (Nat.le_refl _) (show n0 + 1 + dK d + 1 ≤ n0 + 12952 by omega))
 have hb3 : w2.heap.size < w3.heap.size := by have := hp3.2.size; simp at this; omega
 clear hpq hp3 HA2
 generalize w2.heap.size = b at *
 have c_step : True := trivial
 by_cases p0 : p = 0
 · subst p0
   obtain ⟨y, hy, hx, hzz, hny, hty, hpk⟩ := HA3.out
   obtain ⟨c0, c1, c2, c3, c4, c5⟩ := cells6 hx
   have cf := row_free hx
   go_wp2_with fail
   refine (pick_any R (n0 + 12952) _ _ hpk.1 (by omega)).mono ?_
   rintro e w4 ⟨v, ⟨hv0, hv1⟩, rfl, hp4⟩
   have HA4 := Lib.hid (HA3.out.pick hp4 hRw (Nat.le_refl _) hb2)
   clear c0 c1 c2 c3 c4 c5 cf hx hzz hny hty hpk HA3 hp4
   obtain ⟨y, hy, hx, hzz, hny, hty, hpk⟩ := HA4.out
   have HA5 := Lib.hid (AnS.set (Nd.mk v y.data y.ptrs y.size y.count y.items) 0 (.int .i64 v) hx hzz hny hpk hRw (Nat.le_refl _) hb2 rfl rfl rfl hny.1 (show TB 8 (Nd.mk v y.data y.ptrs y.size y.count y.items) 259259 from ⟨hty.1, SB.small (hty.2.1 (Nat.le_refl _)) hty.2.2.2⟩))
   have cf := row_free hx
   obtain ⟨c0, c1, c2, c3, c4, c5⟩ := cells6 hx
   have HA6 := Lib.hid (HA5.out.mono (show 8 ≤ 18 by omega) (show 259259 ≤ 300000 by omega) (show n0 + 12952 + 1 ≤ n0 + 13000 by omega))
   clear hx hzz hny hty hpk HA4 HA5
   obtain ⟨u, hu, ux, uz, un, ut, up⟩ := HA6.out
   obtain ⟨x0, x1, x2, x3, x4, x5⟩ := cells6 ux
   obtain ⟨z0, z1, z2, z3, z4, z5⟩ := cells6 uz
   have zf := row_free uz
   go_wp2_with fail
   obtain ⟨wf, hwf, hrw, hfin⟩ := AnS.fin uz un ut up hRw rfl
   rw [hwf]
   obtain ⟨e0, e1, e2, e3, e4, e5⟩ := cells6 hrw
   exact bodyPost_ret (v := .agg #[.int .i64 u.kind, .string u.data, .slice hu.A u.ptrs.length hu.a, .int .i64 u.size, .int .i64 u.count, .slice hu.B u.items.length hu.b]) (by simp [results, Tryz.results30, go_sem, e0, e1, e2, e3, e4, e5]) rfl hfin
 by_cases p1 : p = 1
 · subst p1
   obtain ⟨y, hy, hx, hzz, hny, hty, hpk⟩ := HA3.out
   obtain ⟨c0, c1, c2, c3, c4, c5⟩ := cells6 hx
   have cf := row_free hx
   have hds : y.data.size ≤ 259259 := by have := hty.1; unfold totN at this; omega
   have hHX := Lib.hid hx
   have HNY := Lib.hid (And.intro hny (And.intro hpk hzz))
   clear hx hny hpk hzz HA3
   go_wp2_with fail
   have hdr : (w3.drew).heap.size = w3.heap.size := rfl
   have hlit : ∀ v ∈ ([.string ⟨#[120]⟩, .string ⟨(repL (⟨#[0]⟩ : ByteArray).data.toList (Int.toNat 8)).toArray⟩] : List Value), ∃ x, v = .string x ∧ x.size ≤ 8 := by
    intro v hv
    simp only [List.mem_cons, List.not_mem_nil, or_false] at hv
    rcases hv with rfl | rfl
    · exact ⟨_, rfl, by decide⟩
    · exact ⟨_, rfl, by rw [rep8]; decide⟩
   go_region_with (first | (go_at_call 68; go_must (refine (l1Many_any ⟨#[0]⟩ 8 _ (by decide) (by decide) (by decide) (by decide)).mono ?_); rintro e w5 ⟨rfl, rfl⟩) | (go_at_call 67; go_must (refine (of_any R (n0 + 12952) w3.heap.size 2 2 (fun z => z.size ≤ 8) _ _ (by exact rd_lit HNY.out.2.1.1 _) (by omega) (by exact Lits.newN _ _ _ _ rfl) (by exact hlit) (by have := row_lt HNY.out.2.2; omega) (by simp) (by omega) (by omega)).mono ?_); rintro e w4 ⟨v, hv8, rfl, hp4⟩; have hf4 := an_pick hHX.out HNY.out.2.2 HNY.out.1 HNY.out.2.1 ((drew_below w3).alloc (Nat.le_refl _) _) hp4 hRw (Nat.le_refl _) hb2; have HF4 := Lib.hid hf4; obtain ⟨q0, q1, q2, q3, q4, q5⟩ := cells6 hf4.1; have qf := row_free hf4.1; clear hf4; have f1 : ¬ 9223372036854775807 < y.data.size + v.size := by omega))
   all_goals
    have HA5 := Lib.hid (AnS.set (Nd.mk y.kind (y.data ++ v) y.ptrs y.size y.count y.items) 1 (.string (y.data ++ v)) HF4.out.1 HF4.out.2.1 HF4.out.2.2.1 HF4.out.2.2.2 hRw (Nat.le_refl _) hb2 rfl rfl rfl (by show (y.data ++ v).size ≤ maxLen; rw [getD_size]; unfold maxLen; omega) (show TB 8 (Nd.mk y.kind (y.data ++ v) y.ptrs y.size y.count y.items) 259267 from ⟨by have := hty.1; unfold totN at this ⊢; show (y.data ++ v).size + totL 8 y.ptrs + totL 8 y.items ≤ _; rw [getD_size]; omega, fun h => absurd h (by decide), fun _ => by show (y.data ++ v).size ≤ 1592; rw [getD_size]; have := hty.2.1 (Nat.le_refl _); omega, hty.2.2.2⟩))
    have HA6 := Lib.hid (HA5.out.mono (show 8 ≤ 18 by omega) (show 259267 ≤ 300000 by omega) (show n0 + 12952 + 1 ≤ n0 + 13000 by omega))
    clear HA5 hp4
    obtain ⟨u, hu, ux, uz, un, ut, up⟩ := HA6.out
    obtain ⟨x0, x1, x2, x3, x4, x5⟩ := cells6 ux
    obtain ⟨z0, z1, z2, z3, z4, z5⟩ := cells6 uz
    have zf := row_free uz
    go_wp2_with fail
    obtain ⟨wf, hwf, hrw, hfin⟩ := AnS.fin uz un ut up hRw rfl
    rw [hwf]
    obtain ⟨e0, e1, e2, e3, e4, e5⟩ := cells6 hrw
    exact bodyPost_ret (v := .agg #[.int .i64 u.kind, .string u.data, .slice hu.A u.ptrs.length hu.a, .int .i64 u.size, .int .i64 u.count, .slice hu.B u.items.length hu.b]) (by simp [results, Tryz.results30, go_sem, e0, e1, e2, e3, e4, e5]) rfl hfin
 by_cases p2 : p = 2
 · subst p2
   obtain ⟨y, hy, hx, hzz, hny, hty, hpk⟩ := HA3.out
   obtain ⟨c0, c1, c2, c3, c4, c5⟩ := cells6 hx
   have cf := row_free hx
   have hHX := Lib.hid hx
   have HNY := Lib.hid (And.intro hny (And.intro hpk hzz))
   clear hx hny hpk hzz HA3
   go_wp2_with fail
   have hdr : (w3.drew).heap.size = w3.heap.size := rfl
   go_region_with (go_at_call 31; go_must (refine (one_any R (n0 + 12952) w3.heap.size 2 2 (fun z => -1 ≤ z ∧ z ≤ 1) _ _ (by exact rd_lit HNY.out.2.1.1 _) (by omega) (by exact Lits.newN _ _ _ _ rfl) (by
    intro v hv
    simp at hv
    rcases hv with rfl | rfl
    all_goals exact ⟨_, rfl, by omega⟩) (by have := row_lt HNY.out.2.2; omega) (by simp) (by omega) (by omega)).mono ?_); rintro e w4 ⟨v, ⟨hv0, hv1⟩, rfl, hp4⟩; have hf4 := an_pick hHX.out HNY.out.2.2 HNY.out.1 HNY.out.2.1 ((drew_below w3).alloc (Nat.le_refl _) _) hp4 hRw (Nat.le_refl _) hb2; have HF4 := Lib.hid hf4; obtain ⟨q0, q1, q2, q3, q4, q5⟩ := cells6 hf4.1; have qf := row_free hf4.1; clear hf4)
   all_goals
    generalize IntKind.i64.wrap (y.count + v) = cv at *
    have HA5 := Lib.hid (AnS.set (Nd.mk y.kind y.data y.ptrs y.size cv y.items) 4 (.int .i64 cv) HF4.out.1 HF4.out.2.1 HF4.out.2.2.1 HF4.out.2.2.2 hRw (Nat.le_refl _) hb2 rfl rfl rfl HF4.out.2.2.1.1 (show TB 8 (Nd.mk y.kind y.data y.ptrs y.size cv y.items) 259259 from ⟨hty.1, SB.small (hty.2.1 (Nat.le_refl _)) hty.2.2.2⟩))
    have HA6 := Lib.hid (HA5.out.mono (show 8 ≤ 18 by omega) (show 259259 ≤ 300000 by omega) (show n0 + 12952 + 1 ≤ n0 + 13000 by omega))
    clear HA5 hp4
    obtain ⟨u, hu, ux, uz, un, ut, up⟩ := HA6.out
    obtain ⟨x0, x1, x2, x3, x4, x5⟩ := cells6 ux
    obtain ⟨z0, z1, z2, z3, z4, z5⟩ := cells6 uz
    have zf := row_free uz
    go_wp2_with fail
    obtain ⟨wf, hwf, hrw, hfin⟩ := AnS.fin uz un ut up hRw rfl
    rw [hwf]
    obtain ⟨e0, e1, e2, e3, e4, e5⟩ := cells6 hrw
    exact bodyPost_ret (v := .agg #[.int .i64 u.kind, .string u.data, .slice hu.A u.ptrs.length hu.a, .int .i64 u.size, .int .i64 u.count, .slice hu.B u.items.length hu.b]) (by simp [results, Tryz.results30, go_sem, e0, e1, e2, e3, e4, e5]) rfl hfin
 by_cases p4 : p = 4
 · subst p4
   obtain ⟨y, hy, hx, hzz, hny, hty, hpk⟩ := HA3.out
   go_wp2_with fail
   refine (pick_any R (n0 + 12952) _ _ hpk.1 (by omega)).mono ?_
   rintro e w4 ⟨v, ⟨hv0, hv1⟩, rfl, hp4⟩
   have HF4 := Lib.hid (an_pick hx hzz hny hpk (Below.refl _ _) hp4 hRw (Nat.le_refl _) hb2)
   clear hx hzz hny hpk HA3 hp4
   have hv3 : v ≤ 3 := by omega
   have hw : IntKind.i64.wrap (8 * IntKind.i64.wrap (197 + v)) = 8 * (197 + v) := by rw [IntKind.wrap_i64, IntKind.wrap_i64]; omega
   go_wp2_with fail
   have hone : (⟨#[1]⟩ : ByteArray).size = 1 ∧ (⟨#[1]⟩ : ByteArray).data.toList.length = 1 ∧ (⟨#[1]⟩ : ByteArray).size ≤ 10000000 := ⟨rfl, rfl, by decide⟩
   refine (l1Many_any ⟨#[1]⟩ (8 * (197 + v)) _ (by omega) (by omega) hone.2.2 (by rw [hone.1, Nat.one_mul]; omega)).mono ?_
   rintro e w5 ⟨rfl, rfl⟩
   have hrs : (⟨(repL (⟨#[1]⟩ : ByteArray).data.toList (8 * (197 + v)).toNat).toArray⟩ : ByteArray).size ≤ 1600 := by rw [rep8, hone.2.1, Nat.one_mul]; omega
   generalize (⟨(repL (⟨#[1]⟩ : ByteArray).data.toList (8 * (197 + v)).toNat).toArray⟩ : ByteArray) = rp at *
   have cf := row_free HF4.out.1
   obtain ⟨wq, hwq, ha6⟩ := (AnS.putE (M := 18) (T := 300000) (Nd.mk 1 rp [] 0 0 []) ⟨none, 0, none, 0⟩ (.int .i64 1) (.string rp) (.slice none 0 0) (.int .i64 0) (.int .i64 0) (.slice none 0 0) rfl HF4.out.1 HF4.out.2.1 ⟨by show rp.size ≤ maxLen; unfold maxLen; omega, NdsAt.nil _ _ _ _, NdsAt.nil _ _ _ _⟩ ⟨by show rp.size + 0 + 0 ≤ 300000; omega, fun h => absurd h (by decide), fun h => absurd (show (1 : Int) = 2 from h) (by decide), show (0 : Nat) ≤ 1000 by decide⟩ (HF4.out.2.2.2.mono (show n0 + 12952 + 1 ≤ n0 + 13000 by omega)) hRw (Nat.le_refl _) hb2)
   obtain ⟨c0, c1, c2, c3, c4, c5⟩ := cells6 HF4.out.1
   have HA6 := Lib.hid ha6
   clear ha6
   obtain ⟨u, hu, ux, uz, un, ut, up⟩ := HA6.out
   obtain ⟨x0, x1, x2, x3, x4, x5⟩ := cells6 ux
   obtain ⟨z0, z1, z2, z3, z4, z5⟩ := cells6 uz
   have zf := row_free uz
   go_wp2_with fail
   obtain ⟨wf, hwf, hrw, hfin⟩ := AnS.fin uz un ut up hRw rfl
   rw [hwf]
   obtain ⟨e0, e1, e2, e3, e4, e5⟩ := cells6 hrw
   exact bodyPost_ret (v := .agg #[.int .i64 u.kind, .string u.data, .slice hu.A u.ptrs.length hu.a, .int .i64 u.size, .int .i64 u.count, .slice hu.B u.items.length hu.b]) (by simp [results, Tryz.results30, go_sem, e0, e1, e2, e3, e4, e5]) rfl hfin
 by_cases p5 : p = 5
 · subst p5
   obtain ⟨y, hy, hx, hzz, hny, hty, hpk⟩ := HA3.out
   go_wp2_with fail
   refine (one_any R (n0 + 12952) w3.heap.size 3 3 (fun z => 999 ≤ z ∧ z ≤ 1001) _ _ (by exact hpk.1.below ((Below.refl _ _).alloc (Nat.le_refl _) _)) (by omega) (by exact Lits.newN _ _ _ _ rfl) (by
    intro v hv
    simp at hv
    rcases hv with rfl | rfl | rfl
    all_goals exact ⟨_, rfl, by omega⟩) (by omega) (by simp) (by omega) (by omega)).mono ?_
   rintro e w4 ⟨v, ⟨hv0, hv1⟩, rfl, hp4⟩
   have HF4 := Lib.hid (an_pick hx hzz hny hpk ((Below.refl _ _).alloc (Nat.le_refl _) _) hp4 hRw (Nat.le_refl _) hb2)
   clear hx hzz hny hpk HA3 hp4
   have cf := row_free HF4.out.1
   obtain ⟨wq, hwq, ha6⟩ := (AnS.putE (M := 18) (T := 300000) (Nd.mk 2 ⟨#[]⟩ [] 0 v []) ⟨none, 0, none, 0⟩ (.int .i64 2) (.string ⟨#[]⟩) (.slice none 0 0) (.int .i64 0) (.int .i64 v) (.slice none 0 0) rfl HF4.out.1 HF4.out.2.1 ⟨show (0 : Nat) ≤ maxLen by decide, NdsAt.nil _ _ _ _, NdsAt.nil _ _ _ _⟩ ⟨by show 0 + 0 + 0 ≤ 300000; omega, SB.small (show (0 : Nat) ≤ 1100 by decide) (show (0 : Nat) ≤ 1000 by decide)⟩ (HF4.out.2.2.2.mono (show n0 + 12952 + 1 ≤ n0 + 13000 by omega)) hRw (Nat.le_refl _) hb2)
   obtain ⟨c0, c1, c2, c3, c4, c5⟩ := cells6 HF4.out.1
   have HA6 := Lib.hid ha6
   clear ha6
   obtain ⟨u, hu, ux, uz, un, ut, up⟩ := HA6.out
   obtain ⟨x0, x1, x2, x3, x4, x5⟩ := cells6 ux
   obtain ⟨z0, z1, z2, z3, z4, z5⟩ := cells6 uz
   have zf := row_free uz
   go_wp2_with fail
   obtain ⟨wf, hwf, hrw, hfin⟩ := AnS.fin uz un ut up hRw rfl
   rw [hwf]
   obtain ⟨e0, e1, e2, e3, e4, e5⟩ := cells6 hrw
   exact bodyPost_ret (v := .agg #[.int .i64 u.kind, .string u.data, .slice hu.A u.ptrs.length hu.a, .int .i64 u.size, .int .i64 u.count, .slice hu.B u.items.length hu.b]) (by simp [results, Tryz.results30, go_sem, e0, e1, e2, e3, e4, e5]) rfl hfin
 by_cases p3 : p = 3
 · subst p3
   have HA3' := Lib.hid HA3.out
   go_wp2_with fail
   go_loopw [4] (fun i wr => ∃ k : Nat, i = .int .i64 k ∧ k ≤ 9 ∧ Hid (AnS b w.heap.size R (8 + k) (259259 + k) (n0 + 12952 + k) w wr) ∧ b < wr.heap.size) (fun i _ => 9 - (intOf i).toNat)
   case atStart => exact ⟨0, rfl, by omega, HA3, hb3⟩
   case round =>
    obtain ⟨k, rfl, hk, HA, hbr⟩ := hrel
    obtain ⟨y, hy, hx, hzz, hny, hty, hpk⟩ := HA.out
    go_wp2_with fail
    refine (pick_any R (n0 + 12952 + k) _ _ hpk.1 (by omega)).mono ?_
    rintro e w4 ⟨v, ⟨hv0, hv1⟩, rfl, hp4⟩
    have HF4 := Lib.hid (an_pick hx hzz hny hpk (Below.refl _ _) hp4 hRw (Nat.le_refl _) hb2)
    have hbr4 : b < w4.heap.size := by have := hp4.2.size; omega
    clear hx hzz hny hpk hp4 HA
    obtain ⟨v, rfl⟩ := Int.eq_ofNat_of_zero_le hv0
    have hv3 : v ≤ 3 := by omega
    have hw : IntKind.i64.wrap (6 + (v : Int)) = 6 + v := by rw [IntKind.wrap_i64]; omega
    by_cases hlt : (k : Int) < 6 + v
    · have hx4 := HF4.out.1
      obtain ⟨c0, c1, c2, c3, c4, c5⟩ := cells6 hx4
      have cf := row_free hx4
      go_wp2_with fail
      go_roundw
      case rel =>
       refine ⟨k + 1, by go_num, by omega, ?_, by simp [World.setCell]; omega⟩
       obtain ⟨wf, hwf, hrw, hpw, huw⟩ := store6 hx4 HF4.out.2.2.2 hRw (by omega) (.int .i64 1) (.string ⟨#[]⟩) (.slice (some ⟨w4.heap.size, 0, none⟩) 1 1) (.int .i64 0) (.int .i64 0) (.slice none 0 0)
       rw [hwf]
       have hsz : wf.heap.size = w4.heap.size := by rw [← hwf]; simp [World.setCell]
       have hkk : ∀ j, j ≠ b → wf.heap[j]? = w4.heap[j]? := by
        intro j hj
        rw [← hwf]
        simp [World.setCell, Array.getElem?_modify, Ne.symm hj]
       have hbl := (Below.refl wf.heap.size wf).alloc (Nat.le_refl _) (.cells #[.int .i64 y.kind, .string y.data, .slice hy.A y.ptrs.length hy.a, .int .i64 y.size, .int .i64 y.count, .slice hy.B y.items.length hy.b] nodeT)
       have hn5 := AnB.low (AnB.other HF4.out.2.2.1 hkk) hbl
       refine Lib.hid ⟨Nd.mk 1 ⟨#[]⟩ [y] 0 0 [], ⟨some ⟨w4.heap.size, 0, none⟩, 1, none, 0⟩, heap_alloc_keep hrw _, heap_alloc_keep ((hkk _ (by omega)).trans HF4.out.2.1) _, ⟨show (0 : Nat) ≤ maxLen by decide, ?_, NdsAt.nil _ _ _ _⟩, ?_, (hpw.below hbl).mono (by omega)⟩
       · exact nds_of_row (m := 8 + k) (q := [(y, hy)]) (hsz ▸ heap_alloc_new wf _) ⟨⟨by omega, by omega⟩, _, _, hsz ▸ heap_alloc_new wf _⟩ (show 1 ≤ maxLen by decide) (fun j u h => by rw [← h]; simp [rowOf]) (fun r hr => by obtain rfl := List.mem_singleton.1 hr; exact hn5)
       · refine ⟨?_, SB.small (show (0 : Nat) ≤ 1100 by decide) (show (0 : Nat) ≤ 1000 by decide)⟩
         show 0 + totL (8 + k + 1) [y] + totL (8 + k + 1) [] ≤ _
         rw [totL_succ, totL_succ]
         have := hty.1
         simp
         omega
      case measure => simp [intOf]; omega
    · have HA6 := Lib.hid (AnS.mono (M' := 18) (T' := 300000) (k' := n0 + 13000) ⟨y, hy, HF4.out.1, HF4.out.2.1, HF4.out.2.2.1, hty, HF4.out.2.2.2⟩ (by omega) (by omega) (by omega))
      clear hty HF4
      obtain ⟨u, hu, ux, uz, un, ut, up⟩ := HA6.out
      obtain ⟨x0, x1, x2, x3, x4, x5⟩ := cells6 ux
      obtain ⟨z0, z1, z2, z3, z4, z5⟩ := cells6 uz
      have zf := row_free uz
      go_wp2_with fail
      obtain ⟨wf, hwf, hrw, hfin⟩ := AnS.fin uz un ut up hRw rfl
      rw [hwf]
      obtain ⟨e0, e1, e2, e3, e4, e5⟩ := cells6 hrw
      exact bodyPost_ret (v := .agg #[.int .i64 u.kind, .string u.data, .slice hu.A u.ptrs.length hu.a, .int .i64 u.size, .int .i64 u.count, .slice hu.B u.items.length hu.b]) (by simp [results, Tryz.results30, go_sem, e0, e1, e2, e3, e4, e5]) rfl hfin
 obtain ⟨u, hu, ux, uz, un, ut, up⟩ := (HA3.out.mono (show 8 ≤ 18 by omega) (show 259259 ≤ 300000 by omega) (show n0 + 12952 ≤ n0 + 13000 by omega))
 have b0 : (p == 0) = false := by simpa using p0
 have b1 : (p == 1) = false := by simpa using p1
 have b2 : (p == 2) = false := by simpa using p2
 have b3 : (p == 3) = false := by simpa using p3
 have b4 : (p == 4) = false := by simpa using p4
 have b5 : (p == 5) = false := by simpa using p5
 obtain ⟨u, hu, ux, uz, un, ut, up⟩ := (HA3.out.mono (show 8 ≤ 18 by omega) (show 259259 ≤ 300000 by omega) (show n0 + 12952 ≤ n0 + 13000 by omega))
 obtain ⟨x0, x1, x2, x3, x4, x5⟩ := cells6 ux
 obtain ⟨z0, z1, z2, z3, z4, z5⟩ := cells6 uz
 have zf := row_free uz
 go_wp2_with fail
 obtain ⟨wf, hwf, hrw, hfin⟩ := AnS.fin uz un ut up hRw rfl
 rw [hwf]
 obtain ⟨e0, e1, e2, e3, e4, e5⟩ := cells6 hrw
 exact bodyPost_ret (v := .agg #[.int .i64 u.kind, .string u.data, .slice hu.A u.ptrs.length hu.a, .int .i64 u.size, .int .i64 u.count, .slice hu.B u.items.length hu.b]) (by simp [results, Tryz.results30, go_sem, e0, e1, e2, e3, e4, e5]) rfl hfin
end Go.Proofs.YtlbfffokkhccaaaGreatDoor
namespace Go.Proofs.YtlbfffokkhccaaaGreatDoor
open Go.RowKit
theorem code_alloc {w : World} {a : Option Addr} {len : Nat} (h : Code w w.heap.size a len) (o : Obj) : Code (w.alloc o) (w.alloc o).heap.size a len :=
 (h.keeps (R := w.heap.size) (Keeps.of_below ((Below.refl w.heap.size w).alloc (Nat.le_refl _) o)) (Nat.le_refl _) (Nat.le_refl _)).mono (by simp)
theorem draw_fin {w w2 : World} {n : Nd} {h : Hd} {M : Nat} (hz : w2.heap[w.heap.size]? = some (.cells #[.int .i64 0, .string { data := #[] }, .slice none 0 0, .int .i64 0, .int .i64 0, .slice none 0 0] nodeT (0, 0))) (hn : NdAt w2 (From (w.heap.size + 1)) M n h) (hb : Below w.heap.size w w2) :
 ∃ wf, ((((((w2.setCell ⟨w.heap.size, 0, none⟩ (.int .i64 n.kind)).setCell ⟨w.heap.size, 1, none⟩ (.string n.data)).setCell ⟨w.heap.size, 2, none⟩ (.slice h.A n.ptrs.length h.a)).setCell ⟨w.heap.size, 3, none⟩ (.int .i64 n.size)).setCell ⟨w.heap.size, 4, none⟩ (.int .i64 n.count)).setCell ⟨w.heap.size, 5, none⟩ (.slice h.B n.items.length h.b)) = wf ∧ wf.heap[w.heap.size]? = some (.cells #[.int .i64 n.kind, .string n.data, .slice h.A n.ptrs.length h.a, .int .i64 n.size, .int .i64 n.count, .slice h.B n.items.length h.b] nodeT (0, 0)) ∧ NdAt wf (From w.heap.size) M n h ∧ Below w.heap.size w wf := by
 have hu : Upon (w.heap.size + 1) w2 ((((((w2.setCell ⟨w.heap.size, 0, none⟩ (.int .i64 n.kind)).setCell ⟨w.heap.size, 1, none⟩ (.string n.data)).setCell ⟨w.heap.size, 2, none⟩ (.slice h.A n.ptrs.length h.a)).setCell ⟨w.heap.size, 3, none⟩ (.int .i64 n.size)).setCell ⟨w.heap.size, 4, none⟩ (.int .i64 n.count)).setCell ⟨w.heap.size, 5, none⟩ (.slice h.B n.items.length h.b)) :=
  ((((((Upon.refl _ w2).setCell (p := ⟨w.heap.size, 0, none⟩) (by simp) _).setCell (p := ⟨w.heap.size, 1, none⟩) (by simp) _).setCell (p := ⟨w.heap.size, 2, none⟩) (by simp) _).setCell (p := ⟨w.heap.size, 3, none⟩) (by simp) _).setCell (p := ⟨w.heap.size, 4, none⟩) (by simp) _).setCell (p := ⟨w.heap.size, 5, none⟩) (by simp) _
 have hk : ∀ (W : World) (i : Nat) (v : Value), Below w.heap.size w W → Below w.heap.size w (W.setCell ⟨w.heap.size, i, none⟩ v) := fun W i v hW => hW.setCell (p := ⟨w.heap.size, i, none⟩) (Nat.le_refl _) v
 exact ⟨_, rfl, row_setN (row_setN (row_setN (row_setN (row_setN (row_setN hz 0 _) 1 _) 2 _) 3 _) 4 _) 5 _, (hn.upon hu).from_ (by omega), hk _ _ _ (hk _ _ _ (hk _ _ _ (hk _ _ _ (hk _ _ _ (hk _ _ _ hb)))))⟩
def DrawNZ (w : World) (e : Ending) (w' : World) : Prop := ∃ (n : Nd) (h : Hd) (z : Int), e = .returned (.tuple #[.agg #[.int .i64 n.kind, .string n.data, .slice h.A n.ptrs.length h.a, .int .i64 n.size, .int .i64 n.count, .slice h.B n.items.length h.b], .int .i64 z]) ∧ (0 ≤ z ∧ z ≤ 201) ∧ NdAt w' (From w.heap.size) 18 n h ∧ totN 18 n ≤ 300000 ∧ Below w.heap.size w w'
theorem drawBuild_any (a : Option Addr) (len cap : Nat) (w : World) (h : Arg w a len cap) :
 Calls Tryz.prog 9 #[.slice a len cap] w (DrawNZ w) := by
 go_enter Tryz.func9, Tryz.ntmps9
 go_wp2_with fail
 refine (l1Open_any a len cap _ (code_alloc h.1 _) h.2.1 h.2.2).mono ?_
 rintro e w1 ⟨R, rfl, hR, hrd, hb1⟩
 have hz1 := (hb1.block w.heap.size (by simp)).trans (heap_alloc_new w (.cells #[.int .i64 0, .string { data := #[] }, .slice none 0 0, .int .i64 0, .int .i64 0, .slice none 0 0] nodeT))
 go_wp2_with fail
 refine (l13AnyNode_any R 0 _ hrd (by omega)).mono ?_
 rintro e w2 ⟨n, hh, rfl, hn, ht, hp2⟩
 have hR' : w.heap.size + 1 ≤ R := by simpa using hR
 have hs1 : w.heap.size + 1 ≤ w1.heap.size := by simpa using hb1.size
 have hb0 : Below w.heap.size w w1 := ((Below.refl w.heap.size w).alloc (Nat.le_refl _) (.cells #[.int .i64 0, .string { data := #[] }, .slice none 0 0, .int .i64 0, .int .i64 0, .slice none 0 0] nodeT)).trans (hb1.mono (by simp))
 go_wp2_with fail
 refine (one_any R (0 + 13000) w2.heap.size 9 9 (fun z => 0 ≤ z ∧ z ≤ 201) _ _ (by exact hp2.1.below ((Below.refl _ _).alloc (Nat.le_refl _) _)) (by omega) (by exact Lits.new _ _ _ _) (by
  intro v hv
  simp at hv
  rcases hv with rfl | rfl | rfl | rfl | rfl | rfl | rfl | rfl | rfl
  all_goals exact ⟨_, rfl, by omega⟩) (by have := hp2.1.lt; omega) (by simp) (by omega) (by omega)).mono ?_
 rintro e w3 ⟨zz, ⟨zz0, zz1⟩, rfl, hp3⟩
 have hRl := hrd.lt
 have hbA := (Below.refl w2.heap.size w2).alloc (Nat.le_refl _) (.cells #[.int .i64 1, .int .i64 2, .int .i64 4, .int .i64 8, .int .i64 12, .int .i64 20, .int .i64 200, .int .i64 0, .int .i64 201] 3)
 have hn := hn.picked (Picked.from hbA hp3) (by omega)
 have hp2 := (hp2.below hbA).then hp3
 have hb2 := opened_below (by omega) hb0 hp2
 have hz2 := pick_rowN hz1 hp2 (by omega)
 have hn2 := hn.plain.from_ hs1
 obtain ⟨z0, z1, z2, z3, z4, z5⟩ := cells6 hz2
 have zf := row_free hz2
 clear hb1 hp2 hb0 hz1 hrd
 go_wp2_with fail
 obtain ⟨wf, hwf, hrw, hnf, hbf⟩ := draw_fin hz2 hn2 hb2
 rw [hwf]
 obtain ⟨e0, e1, e2, e3, e4, e5⟩ := cells6 hrw
 exact bodyPost_ret (v := .tuple #[.agg #[.int .i64 n.kind, .string n.data, .slice hh.A n.ptrs.length hh.a, .int .i64 n.size, .int .i64 n.count, .slice hh.B n.items.length hh.b], .int .i64 zz]) (by simp [results, Tryz.results9, go_sem, e0, e1, e2, e3, e4, e5]) rfl ⟨n, hh, zz, rfl, ⟨zz0, zz1⟩, hnf, ht.1, hbf⟩
theorem drawSend_any (a : Option Addr) (len cap : Nat) (w : World) (h : Arg w a len cap) :
 Calls Tryz.prog 21 #[.slice a len cap] w (DrawNZ w) := by
 have HD := Lib.hid (drawBuild_any a len cap (w.alloc (.cells #[.int .i64 0, .string { data := #[] }, .slice none 0 0, .int .i64 0, .int .i64 0, .slice none 0 0] nodeT)) ⟨code_alloc h.1 _, h.2.1, h.2.2⟩)
 clear h
 go_enter Tryz.func21, Tryz.ntmps21
 go_wp2_with fail
 refine HD.out.mono ?_
 rintro e w1 ⟨n, hh, z, rfl, hzz, hn, ht, hb1⟩
 have hz2 := (hb1.block w.heap.size (by simp)).trans (heap_alloc_new w (.cells #[.int .i64 0, .string { data := #[] }, .slice none 0 0, .int .i64 0, .int .i64 0, .slice none 0 0] nodeT))
 have hb2 : Below w.heap.size w w1 := ((Below.refl w.heap.size w).alloc (Nat.le_refl _) (.cells #[.int .i64 0, .string { data := #[] }, .slice none 0 0, .int .i64 0, .int .i64 0, .slice none 0 0] nodeT)).trans (hb1.mono (by simp))
 have hn2 : NdAt w1 (From (w.heap.size + 1)) 18 n hh := hn.from_ (by simp)
 obtain ⟨z0, z1, z2, z3, z4, z5⟩ := cells6 hz2
 have zf := row_free hz2
 clear hb1 hn
 go_wp2_with fail
 obtain ⟨wf, hwf, hrw, hnf, hbf⟩ := draw_fin hz2 hn2 hb2
 rw [hwf]
 obtain ⟨e0, e1, e2, e3, e4, e5⟩ := cells6 hrw
 exact bodyPost_ret (v := .tuple #[.agg #[.int .i64 n.kind, .string n.data, .slice hh.A n.ptrs.length hh.a, .int .i64 n.size, .int .i64 n.count, .slice hh.B n.items.length hh.b], .int .i64 z]) (by simp [results, Tryz.results21, go_sem, e0, e1, e2, e3, e4, e5]) rfl ⟨n, hh, z, rfl, hzz, hnf, ht, hbf⟩
open Go.RowKit Go.Deep
theorem snd_facts {r : Option Segs} (h : sndB r = true) : r.isSome = true ∧ (sndF r).size % 8 = 0 ∧ (sndF r).size ≤ 1600 ∧ sndS r = pkS (sndF r) ∧ (pkS (sndF r)).size ≤ 10 * ((sndF r).size / 8) := by
 have h' := h
 unfold sndB at h
 rw [Bool.and_eq_true] at h
 have hw8 : (sndF r).size % 8 = 0 ∧ (sndF r).size ≤ 1600 := by simpa [wordsB] using h.2
 refine ⟨h.1, hw8.1, hw8.2, by unfold sndS; rw [if_pos h']; rfl, ?_⟩
 have hsl : (sndF r).data.toList.length = (sndF r).size := rfl
 have hT : packB (sndF r).data.toList = packW (wl (wordsQ (sndF r).data.toList)) := by rw [packB, hsl, h.2, if_pos rfl]
 have hl := pack_len (wl_wds (wordsQ (sndF r).data.toList))
 rw [wl_len, wordsQ_length, hsl] at hl
 have hs : (pkS (sndF r)).size = (packB (sndF r).data.toList).length := by unfold pkS; simp [ByteArray.size]
 rw [hs, hT]
 exact hl
end Go.Proofs.YtlbfffokkhccaaaGreatDoor
