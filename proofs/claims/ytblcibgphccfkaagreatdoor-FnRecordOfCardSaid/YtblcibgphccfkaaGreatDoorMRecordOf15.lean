/- Texts of the proof of the law FnRecordOf, side by side: part 15. -/
import Derived.Lib.AppendZerosOnto
import Derived.Test.YtblcibgphccfkaaGreatDoorMRecordOf14
set_option maxHeartbeats 8000000
set_option maxRecDepth 100000
namespace Go.Proofs.YtblcibgphccfkaaGreatDoor
open Go.RowKit Go.Deep
theorem setA {w W : World} {g R : Nat} {T : TypeId} {u0 u1 u2 u3 u4 u5 u6 : Value} (v0 : Value) (hz : W.heap[g]? = some (.cells #[u0, u1, u2, u3, u4, u5, u6] T (0, 0))) (hb : Below R w W) (hR : R ≤ g) :
 ∃ wf, W.setCell ⟨g, 0, none⟩ v0 = wf ∧ wf.heap[g]? = some (.cells #[v0, u1, u2, u3, u4, u5, u6] T (0, 0)) ∧ Below R w wf ∧ ∀ k, k ≠ g → wf.heap[k]? = W.heap[k]? :=
 ⟨_, rfl, row_setN hz 0 v0, hb.setCell (p := ⟨g, 0, none⟩) hR v0, fun k h => Below.heap_setCell W ⟨g, 0, none⟩ v0 k h⟩
theorem rget_a (g : Nat) (x y : Addr) (c cy : Nat) (l : List Fld) (n : Nd) (h : Hd) (k : Nat) (hk : k < l.length) (el : Int) (w : World) (hr : RecAt w g (some x) l.length c l (.slice (some y) l.length cy) n h) (hxb : x.block < w.heap.size) (hf : w.cell? ⟨(x.add (k * 3)).block, (x.add (k * 3)).off + 2, none⟩ = some (.int .i64 el)) (hl : l.length ≤ 12) (xv : Int) (yv : Nd) (hv : Hd)
 (HRAW : ∀ W : World, Below w.heap.size w W → Calls Tryz.prog 62 #[.pointer (some ⟨g, 0, none⟩), .int .i64 (k : Int)] W fun e w' => e = .returned (.agg #[.int .i64 xv, .int .i64 yv.kind, .string yv.data, .slice hv.A yv.ptrs.length hv.a, .int .i64 yv.size, .int .i64 yv.count, .slice hv.B yv.items.length hv.b]) ∧ Below W.heap.size W w') :
 Calls Tryz.prog 31 #[.pointer (some ⟨g, 0, none⟩), .int .i64 (k : Int)] w fun e w' => e = .returned (.agg #[.int .i64 (xorI xv el), .int .i64 yv.kind, .string yv.data, .slice hv.A yv.ptrs.length hv.a, .int .i64 yv.size, .int .i64 yv.count, .slice hv.B yv.items.length hv.b]) ∧ Below w.heap.size w w' := by
 have HQ := Lib.hid HRAW
 have HR := Lib.hid hr
 unfold RecAt at HR
 have HGL := Lib.hid (row_lt hr)
 have HXL : Hid ((⟨(x.add (k * 3)).block, (x.add (k * 3)).off + 2, none⟩ : Addr).block < w.heap.size) := Lib.hid (by show (x.add (k * 3)).block < _; rw [addr_block]; exact hxb)
 have HFC := Lib.hid hf
 have HBA := Lib.hid ((Below.refl w.heap.size w).alloc (Nat.le_refl _) (.cells #[.int .i64 0, .int .i64 0, .string { data := #[] }, .slice none 0 0, .int .i64 0, .int .i64 0, .slice none 0 0] valT))
 have HRA := Lib.hid (heap_alloc_new w (.cells #[.int .i64 0, .int .i64 0, .string { data := #[] }, .slice none 0 0, .int .i64 0, .int .i64 0, .slice none 0 0] valT))
 have HXE : Hid (xorI xv el = bits .xor .i64 xv el) := Lib.hid rfl
 clear HRAW hr hxb hf
 go_enter Tryz.func31, Tryz.ntmps31
 go_wp2_with fail
 generalize w.alloc (.cells #[.int .i64 0, .int .i64 0, .string { data := #[] }, .slice none 0 0, .int .i64 0, .int .i64 0, .slice none 0 0] valT) = W at *
 refine (HQ.out W HBA.out).mono ?_
 rintro e w2 ⟨rfl, hb2⟩
 have HB2 := Lib.hid (HBA.out.trans (hb2.mono HBA.out.size))
 have HU2 := Lib.hid ((hb2.block _ (row_lt HRA.out)).trans HRA.out)
 have hn := heap_alloc_new w2 (.cells #[.int .i64 xv, .int .i64 yv.kind, .string yv.data, .slice hv.A yv.ptrs.length hv.a, .int .i64 yv.size, .int .i64 yv.count, .slice hv.B yv.items.length hv.b] valT)
 have hb3 : Below w2.heap.size w2 (w2.alloc (.cells #[.int .i64 xv, .int .i64 yv.kind, .string yv.data, .slice hv.A yv.ptrs.length hv.a, .int .i64 yv.size, .int .i64 yv.count, .slice hv.B yv.items.length hv.b] valT)) := (Below.refl _ _).alloc (Nat.le_refl _) _
 have hB3 : Below w.heap.size w (w2.alloc (.cells #[.int .i64 xv, .int .i64 yv.kind, .string yv.data, .slice hv.A yv.ptrs.length hv.a, .int .i64 yv.size, .int .i64 yv.count, .slice hv.B yv.items.length hv.b] valT)) := HB2.out.trans (hb3.mono HB2.out.size)
 obtain ⟨r0, r1, r2, r3, r4, r5, r6, r7, r8, r9, r10⟩ := cells11 ((hB3.block _ HGL.out).trans HR.out)
 have c2 := (hB3.cell (p := ⟨(x.add (k * 3)).block, (x.add (k * 3)).off + 2, none⟩) HXL.out).trans HFC.out
 obtain ⟨z0, z1, z2, z3, z4, z5, z6⟩ := cellsV hn
 have zf := row_free hn
 have HN := Lib.hid hn
 have HB3 := Lib.hid hB3
 have HU3 := Lib.hid ((hb3.block _ (row_lt HU2.out)).trans HU2.out)
 clear hb2 hb3 hB3 hn
 go_wp2_with fail
 generalize w2.alloc (.cells #[.int .i64 xv, .int .i64 yv.kind, .string yv.data, .slice hv.A yv.ptrs.length hv.a, .int .i64 yv.size, .int .i64 yv.count, .slice hv.B yv.items.length hv.b] valT) = W3 at *
 go_region
 clear r0 r1 r2 r3 r4 r5 r6 r7 r8 r9 r10 c2 z0 z1 z2 z3 z4 z5 z6 zf
 have hlt := Nat.lt_of_lt_of_le (row_lt HU2.out) (Nat.le_refl _)
 obtain ⟨wf, hwf, hrw, hbf, hkf⟩ := setA (w := w) (R := w.heap.size) (.int .i64 (bits .xor .i64 xv el)) HN.out HB3.out (by omega)
 rw [hwf]
 have hu4 := (hkf _ (by omega)).trans HU3.out
 have hb4 : Below w.heap.size w wf.drew := hbf.drew
 have hr4 : wf.drew.heap[w2.heap.size]? = _ := hrw
 have hu5 : wf.drew.heap[w.heap.size]? = _ := hu4
 generalize wf.drew = W4 at *
 obtain ⟨z0, z1, z2, z3, z4, z5, z6⟩ := cellsV hr4
 obtain ⟨y0, y1, y2, y3, y4, y5, y6⟩ := cellsV hu5
 have yf := row_free hu5
 have HU5 := Lib.hid hu5
 have HB4 := Lib.hid hb4
 clear hwf hrw hbf hkf hu4 hb4 hr4 hu5
 go_wp2
 obtain ⟨w6, hw6, hr6, hb6, -⟩ := finV (w := w) (R := w.heap.size) (.int .i64 (bits .xor .i64 xv el)) (.int .i64 yv.kind) (.string yv.data) (.slice hv.A yv.ptrs.length hv.a) (.int .i64 yv.size) (.int .i64 yv.count) (.slice hv.B yv.items.length hv.b) HU5.out HB4.out (Nat.le_refl _)
 try rw [hw6]
 obtain ⟨e0, e1, e2, e3, e4, e5, e6⟩ := cellsV hr6
 exact bodyPost_ret (v := .agg #[.int .i64 (xorI xv el), .int .i64 yv.kind, .string yv.data, .slice hv.A yv.ptrs.length hv.a, .int .i64 yv.size, .int .i64 yv.count, .slice hv.B yv.items.length hv.b]) (by simp [results, Tryz.results31, go_sem, HXE.out, e0, e1, e2, e3, e4, e5, e6]) rfl ⟨rfl, hb6⟩
end Go.Proofs.YtblcibgphccfkaaGreatDoor
namespace Go.Proofs.YtblcibgphccfkaaGreatDoor
open Go.RowKit
theorem slots_at {w : World} {B : Nat} {A : Option Addr} {cap n : Nat} {l : List Nat} (h : w.ownsRow B slotT 1 (.slice A n cap) l.length (slotCells l)) {k : Nat} (hk : k < l.length) :
 n = l.length ∧ ∃ x, A = some x ∧ w.cell? (x.add k) = some (.int .i64 ((l.getD k 0 : Nat) : Int)) := by
 rcases h.2 with ⟨e, h0⟩ | ⟨g, cap', cur, e, _, hg, _⟩
 · omega
 · injection e with e1 e2 e3
   subst e1 e2
   refine ⟨rfl, _, rfl, ?_⟩
   refine h.cells (g := g) rfl k _ ?_
   rw [slotCells, List.getElem?_map, List.getElem?_eq_getElem hk, List.getD, List.getElem?_eq_getElem hk]
   rfl
mutual
def sizN : Nd → Nat
 | .mk _ d p _ _ i => d.size + sizL p + sizL i
def sizL : List Nd → Nat
 | [] => 0
 | n :: t => 1 + sizN n + sizL t
end
theorem sizL_map : ∀ l : List Nd, sizL l = (l.map fun n => 1 + sizN n).sum
 | [] => by rw [sizL]; rfl
 | n :: t => by rw [sizL, sizL_map t]; simp
theorem sizN_eq (n : Nd) : sizN n = n.data.size + sizL n.ptrs + sizL n.items := by
 cases n with
 | mk k d p s c i => rw [sizN]; rfl
theorem sizL_nil : sizL [] = 0 := by rw [sizL]
theorem totL_siz {w : World} {S : Nat → Prop} : ∀ (m : Nat) (A : Option Addr) (l : List Nd), NdsAt w S m A l → totL m l = sizL l
 | 0, A, l, h => by rw [h.zero, sizL_nil]; rfl
 | m + 1, A, l, h => by
   rw [totL_succ, sizL_map]
   congr 1
   apply List.map_congr_left
   intro n hn
   obtain ⟨hd, h1⟩ := h.mem n hn
   unfold totN
   rw [sizN_eq, totL_siz m _ _ h1.2.1, totL_siz m _ _ h1.2.2]
theorem totN_siz {w : World} {S : Nat → Prop} {m : Nat} {n : Nd} {h : Hd} (hn : NdAt w S m n h) : totN m n = sizN n := by
 unfold totN
 rw [sizN_eq, totL_siz m _ _ hn.2.1, totL_siz m _ _ hn.2.2]
theorem sizL_app (a b : List Nd) : sizL (a ++ b) = sizL a + sizL b := by rw [sizL_map, sizL_map, sizL_map, List.map_append, List.sum_append]
theorem sizL_take (l : List Nd) (k : Nat) : sizL (l.take k) ≤ sizL l := by
 conv => rhs; rw [← List.take_append_drop k l]
 rw [sizL_app]; omega
def cellE (r : Nd × Hd) : Nat → Value
 | 0 => .int .i64 r.1.kind
 | 1 => .string r.1.data
 | 2 => .slice r.2.A r.1.ptrs.length r.2.a
 | 3 => .int .i64 r.1.size
 | 4 => .int .i64 r.1.count
 | _ => .slice r.2.B r.1.items.length r.2.b
theorem rowOf_get : ∀ (q : List (Nd × Hd)) (j : Nat), (rowOf q)[j]? = (q[j / 6]?).map fun r => cellE r (j % 6)
 | [], j => by simp [rowOf]
 | r :: t, 0 => rfl
 | r :: t, 1 => rfl
 | r :: t, 2 => rfl
 | r :: t, 3 => rfl
 | r :: t, 4 => rfl
 | r :: t, 5 => rfl
 | r :: t, j + 1 + 1 + 1 + 1 + 1 + 1 => by
   show (rowOf t)[j]? = _
   rw [rowOf_get t j, show (j + 1 + 1 + 1 + 1 + 1 + 1) / 6 = j / 6 + 1 by omega, show (j + 1 + 1 + 1 + 1 + 1 + 1) % 6 = j % 6 by omega, List.getElem?_cons_succ]
def RowG (w : World) (g c : Nat) (q : List NB) (M : Nat) : Prop :=
 ∃ cur : Array Value, w.heap[g]? = some (.cells cur nodeT (0, 0)) ∧ cur.size = c * 6 ∧ q.length ≤ c ∧ c ≤ maxLen ∧ cur.toList.take (q.length * 6) = rowB q ∧ (∀ r ∈ q, OwN w M r.1 r.2.1 r.2.2) ∧ (blkB q).Nodup ∧ g ∉ blkB q
theorem blkB_app (a b : List NB) : blkB (a ++ b) = blkB a ++ blkB b := by unfold blkB; rw [List.flatMap_append]
theorem blkB_cons (r : NB) (b : List NB) : blkB (r :: b) = r.2.2 ++ blkB b := by unfold blkB; rw [List.flatMap_cons]
theorem OwS.rowG {w : World} {M g c : Nat} {l : List Nd} {bs : List Nat} (h : OwS w (M + 1) (some ⟨g, 0, none⟩) c l bs) (hnd : bs.Nodup) : ∃ q : List NB, q.map (·.1) = l ∧ bs = g :: blkB q ∧ RowG w g c q M := by
 obtain ⟨q, hq, ho, hb, hr⟩ := h
 rcases own_blk ho with ⟨h1, _⟩ | ⟨g', cur, hg, h1, h2, h3, h4, h5, h6, h7⟩
 · cases h1
 · injection hg with hg
   injection hg with hg
   subst hg
   have hb' : bs = g :: blkB q := hb
   rw [hb'] at hnd
   have := List.nodup_cons.1 hnd
   exact ⟨q, hq, hb', cur, h3, h6, h4, h5, h7, hr, this.2, this.1⟩
theorem RowG.own {w : World} {M g c : Nat} {q : List NB} (h : RowG w g c q M) : OwS w (M + 1) (some ⟨g, 0, none⟩) c (q.map (·.1)) (g :: blkB q) ∧ (g :: blkB q).Nodup := by
 obtain ⟨cur, h1, h2, h3, h4, h5, h6, h7, h8⟩ := h
 exact ⟨⟨q, rfl, ⟨by rw [← h5, List.length_take]; simp; omega, .inr ⟨g, c, cur, rfl, Nat.zero_le _, h1, h3, h4, h2, h5⟩⟩, rfl, h6⟩, List.nodup_cons.2 ⟨h8, h7⟩⟩
structure OnlyIn (bs : List Nat) (w w' : World) : Prop where
 os : w'.os = w.os
 tape : w'.tape = w.tape
 output : w'.output = w.output
 size : w.heap.size ≤ w'.heap.size
 block : ∀ k, k < w.heap.size → k ∉ bs → w'.heap[k]? = w.heap[k]?
theorem OnlyIn.refl (bs : List Nat) (w : World) : OnlyIn bs w w := ⟨rfl, rfl, rfl, Nat.le_refl _, fun _ _ _ => rfl⟩
theorem OnlyIn.trans {bs : List Nat} {a b c : World} (h : OnlyIn bs a b) (k : OnlyIn bs b c) : OnlyIn bs a c :=
 ⟨k.os.trans h.os, k.tape.trans h.tape, k.output.trans h.output, Nat.le_trans h.size k.size, fun x hx hn => (k.block x (Nat.lt_of_lt_of_le hx h.size) hn).trans (h.block x hx hn)⟩
theorem OnlyIn.of_below {bs : List Nat} {w w' : World} (h : Below w.heap.size w w') : OnlyIn bs w w' := ⟨h.os, h.tape, h.output, h.size, fun k hk _ => h.block k hk⟩
theorem OnlyIn.setCell {bs : List Nat} {w : World} {p : Addr} (hp : p.block ∈ bs) (v : Value) : OnlyIn bs w (w.setCell p v) := ⟨rfl, rfl, rfl, by simp [World.setCell], fun k _ hn => Below.heap_setCell w p v k (fun e => hn (e ▸ hp))⟩
theorem OnlyIn.mono {bs bs' : List Nat} {w w' : World} (h : OnlyIn bs w w') (hs : ∀ b ∈ bs, b ∈ bs' ∨ w.heap.size ≤ b) : OnlyIn bs' w w' := ⟨h.os, h.tape, h.output, h.size, fun k hk hn => h.block k hk (fun hm => by rcases hs k hm with h | h; exact hn h; omega)⟩
theorem OnlyIn.below {bs : List Nat} {B : Nat} {w w' : World} (h : OnlyIn bs w w') (hB : B ≤ w.heap.size) (hs : ∀ b ∈ bs, B ≤ b) : Below B w w' := ⟨h.os, h.tape, h.output, h.size, fun k hk => h.block k (by omega) (fun hm => by have := hs k hm; omega)⟩
theorem OnlyIn.drew {bs : List Nat} {w w' : World} (h : OnlyIn bs w w') : OnlyIn bs w w'.drew := ⟨h.os, h.tape, h.output, h.size, h.block⟩
abbrev nHd : Hd := ⟨none, 0, none, 0⟩
open Go.RowKit Go.Deep
theorem wpList_append_ndB {ops : Array Oper} {rest : List Oper} {o : Oper} {a : Act} {w : World} {Q : Exit → Act → World → Prop} (hgd : o.guard = none) (s x : Operand)
 (ho : o.op = .call { callee := .builtin .append, args := #[s, x], argTypes := #[nodesT, nodesT] })
 (base : Nat) (v : Value) (n : Nat) (xs : List Value) (hs : a.eval s = v) (hown : w.ownsRow base nodeT 6 v n xs)
 (ad : Addr) (c : Nat) (r : Nd × Hd) (hx : a.eval x = .slice (some ad) 1 c) (hnews : ∀ j u, (rowOf [r])[j]? = some u → w.cell? (ad.add j) = some u) (hn : n ≤ 3000000) (hbase : base ≤ w.heap.size)
 (h : ∀ A' c' w', Hid (w'.ownsRow base nodeT 6 (.slice A' (n + 1) c') (n + 1) (xs ++ rowOf [r])) → Hid (w.grownBy w' v.ownBlock) → Hid ((Value.slice A' (n + 1) c').ownBlock = v.ownBlock ∨ (Value.slice A' (n + 1) c').ownBlock = some w.heap.size) → wpList Tryz.prog ops Q rest (a.put o.dst (.slice A' (n + 1) c')) w') :
 wpList Tryz.prog ops Q (o :: rest) a w :=
 wpList_plain hgd fun K hK => by
  obtain ⟨i0, hi, hz0, hz1, hz2⟩ := info_parts infoNd
  obtain ⟨v', w', hr, h2, h3, _, h5⟩ := run_append_own_at (P := Tryz.prog) w base nodesT o.type nodeT i0 _ 6 88 Tryz.underlying24 hi hz0 hz1 hz2 rfl (by decide) v n xs hown ad 1 c (rowOf [r]) rfl hnews (rowOf_one _) (by unfold maxLen; omega) (by omega) hbase
  obtain ⟨A', c', rfl⟩ := own_sliceN h2
  unfold Oper.wp execOp
  simp only [ho, resolve, invoke, builtin, Sem.run_bind, Sem.run_pure, Result.andThen_ok, List.map_toArray, List.map_cons, List.map_nil, hs, hx, hr]
  exact hK _ _ (h A' c' w' h2 h3 h5)
theorem sizL_len : ∀ l : List Nd, l.length ≤ sizL l
 | [] => by simp
 | n :: t => by rw [sizL, List.length_cons]; have := sizL_len t; omega
theorem sizL_at {l : List Nd} {k : Nat} (h : k < l.length) : sizN l[k] ≤ sizL l := by
 have h1 : sizL (l.take (k + 1)) ≤ sizL l := sizL_take l _
 rw [List.take_succ_eq_append_getElem h, sizL_app, sizL, sizL_nil] at h1
 omega
def CiN (m : Nat) : Prop := ∀ (n : Nd) (h : Hd) (w : World) (S : Nat → Prop), NdAt w S m n h → sizN n ≤ 2000000 → Calls Tryz.prog 32 #[.agg #[.int .i64 n.kind, .string n.data, .slice h.A n.ptrs.length h.a, .int .i64 n.size, .int .i64 n.count, .slice h.B n.items.length h.b]] w (NewO (m + 1) n w)
def CiS (m : Nat) : Prop := ∀ (A : Option Addr) (c : Nat) (l : List Nd) (w : World) (S : Nat → Prop), NdsAt w S m A l → sizL l ≤ 2000000 → Calls Tryz.prog 63 #[.slice A l.length c] w (NewOS (m + 1) l w)
theorem ciS_of (m : Nat) (IH : ∀ j, m = j + 1 → CiN j) : CiS m := by
 intro A c l w S hl hsz
 have hlm : l.length ≤ 2000000 := Nat.le_trans (sizL_len l) hsz
 have HF := Lib.hid hl
 have HSZ := Lib.hid hsz
 have HIH := Lib.hid IH
 clear hl hsz IH
 go_enter Tryz.func63, Tryz.ntmps63
 go_wp2
 go_loopw [3, 8] (fun v i wr => ∃ (u : Value) (k : Nat) (q : List NB), u = v ∧ i = .int .i64 k ∧ k ≤ l.length ∧ q.length = k ∧ Hid (RowO wr w.heap.size u q m ∧ q.map (·.1) = l.take k) ∧ Hid (Below w.heap.size w wr)) (fun _ i _ => l.length - (intOf i).toNat)
 case atStart => exact ⟨_, 0, [], rfl, rfl, by omega, rfl, Lib.hid ⟨RowO.nil _ _ _, rfl⟩, Lib.hid (Below.refl _ _)⟩
 case round =>
  obtain ⟨v, k, q, hv0, rfl, hk, hql, HR, HB⟩ := hrel
  subst hv0
  by_cases hlt : k < l.length
  · obtain ⟨j, rfl⟩ := HF.out.pred hlt
    obtain ⟨x, hd, rfl, hc, hn⟩ := (HF.out.below HB.out).at_ hlt
    have htn : l.take k ++ [l[k]] = l.take (k + 1) := (List.take_succ_eq_append_getElem hlt).symm
    have hzy : sizN l[k] ≤ 2000000 := Nat.le_trans (sizL_at hlt) HSZ.out
    have HM : Hid (q.map (·.1) ++ [l[k]] = l.take (k + 1)) := Lib.hid (by rw [HR.out.2, htn])
    generalize l[k] = y at *
    obtain ⟨d0, d1, d2, d3, d4, d5⟩ := hc
    have hba := (Below.refl wr.heap.size wr).alloc (Nat.le_refl _) (.cells #[.int .i64 y.kind, .string y.data, .slice hd.A y.ptrs.length hd.a, .int .i64 y.size, .int .i64 y.count, .slice hd.B y.items.length hd.b] nodeT)
    have HC := Lib.hid (HIH.out j rfl y hd (wr.alloc (.cells #[.int .i64 y.kind, .string y.data, .slice hd.A y.ptrs.length hd.a, .int .i64 y.size, .int .i64 y.count, .slice hd.B y.items.length hd.b] nodeT)) S (hn.below hba) hzy)
    have HR2 := Lib.hid (HR.out.1.alloc (.cells #[.int .i64 y.kind, .string y.data, .slice hd.A y.ptrs.length hd.a, .int .i64 y.size, .int .i64 y.count, .slice hd.B y.items.length hd.b] nodeT))
    have HB2 := Lib.hid (HB.out.trans (hba.mono HB.out.size))
    have hs1 := HB.out.size
    have hs2 : (wr.alloc (.cells #[.int .i64 y.kind, .string y.data, .slice hd.A y.ptrs.length hd.a, .int .i64 y.size, .int .i64 y.count, .slice hd.B y.items.length hd.b] nodeT)).heap.size = wr.heap.size + 1 := by simp
    unfold NewO at HC
    clear hn hzy htn hba
    go_wp2_with fail
    generalize wr.alloc (.cells #[.int .i64 y.kind, .string y.data, .slice hd.A y.ptrs.length hd.a, .int .i64 y.size, .int .i64 y.count, .slice hd.B y.items.length hd.b] nodeT) = W2 at *
    clear d0 d1 d2 d3 d4 d5
    refine HC.out.mono ?_
    rintro e w3 ⟨hy, bs, rfl, hny, hnd, hge, hb3⟩
    have HO3 := Lib.hid (HR2.out.low hb3)
    have HB3 := Lib.hid (HB2.out.trans (hb3.mono HB2.out.size))
    have hs3 := hb3.size
    have HQH : Hid (∀ b ∈ blkB q, b < W2.heap.size) := Lib.hid HR2.out.lt
    have HVH : Hid (∀ k, v.ownBlock = some k → k < W2.heap.size) := Lib.hid fun k hk => (HR2.out.1.lt k hk).2
    have HNY := Lib.hid hny
    have HND := Lib.hid (And.intro hnd hge)
    have hq3 : q.length ≤ 3000000 := by omega
    clear hny hnd hge hb3
    go_wp2_with (at_builtin; go_must (refine wpList_append_ndB rfl (.tmp 12) (.tmp 15) rfl w.heap.size v q.length (rowB q) rfl (HO3.out.1.alloc _) ⟨w3.heap.size, 0, none⟩ 1 (y, hy) rfl (cells_six_new w3 (y, hy) _) hq3 (by simp; omega) ?_); intro A4 c4 w4 hown4 hgrow4 hat4)
    have hnx := (HO3.out.alloc _).next (HNY.out.below ((Below.refl w3.heap.size w3).alloc (Nat.le_refl _) _)) HND.out.1 HND.out.2 (by omega) HQH.out HVH.out hown4.out hgrow4.out hat4.out
    have HB4 := Lib.hid ((HB3.out.alloc HB3.out.size _).grown hgrow4.out (by simp; omega) (fun k hk => (HO3.out.1.lt k hk).1))
    have HR4 := Lib.hid (And.intro hnx (show (q ++ [(y, hy, bs)]).map (·.1) = l.take (k + 1) by rw [List.map_append]; exact HM.out))
    clear hown4 hgrow4 hat4 hnx
    rw [hql] at HR4
    go_roundw
    case rel => exact ⟨_, k + 1, q ++ [(y, hy, bs)], rfl, by go_num, by omega, by simp; omega, HR4, HB4⟩
    case measure => simp [intOf]; omega
  · obtain rfl : k = l.length := by omega
    obtain ⟨A2, c2, bs, hv, hown, hnd, hge⟩ := HR.out.1.done
    have hm := HR.out.2
    rw [List.take_of_length_le (Nat.le_refl _)] at hm
    subst hv
    have hll : l.length = q.length := by omega
    rw [hm] at hown
    have HRES : Hid (NewOS (m + 1) l w (.returned (.slice A2 q.length c2)) wr) := Lib.hid ⟨A2, c2, bs, by rw [hll], hown, hnd, hge, HB.out⟩
    clear hown hnd hge hm HR hll
    go_wp2
    go_ret
    exact HRES.out
end Go.Proofs.YtblcibgphccfkaaGreatDoor
