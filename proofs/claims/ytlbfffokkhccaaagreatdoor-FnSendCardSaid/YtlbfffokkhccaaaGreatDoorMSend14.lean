/- Texts of the proof of the law FnSend, side by side: part 14. -/
import Derived.Test.YtlbfffokkhccaaaGreatDoorMSend13
set_option maxHeartbeats 8000000
set_option maxRecDepth 100000
namespace Go.Proofs.YtlbfffokkhccaaaGreatDoor
open Go.RowKit Go.Deep
structure RdLow (rb : Nat) (A : Option Addr) (zs : List ByteArray) (B : Nat) : Prop where
 rb : rb < B
 txt : zs = [] ∨ ∃ a : Addr, A = some a ∧ a.block < B
theorem Rdr.low {w : World} {rb cap : Nat} {A : Option Addr} {zs : List ByteArray} {L : Int} (h : Rdr w rb A cap zs L) : RdLow rb A zs w.heap.size :=
 ⟨h.lt, h.strs.2.imp id (fun ⟨a, ha, hl, _⟩ => ⟨a, ha, hl⟩)⟩
theorem RdLow.mono {rb B B' : Nat} {A : Option Addr} {zs : List ByteArray} (h : RdLow rb A zs B) (hb : B ≤ B') : RdLow rb A zs B' := ⟨Nat.lt_of_lt_of_le h.rb hb, h.txt.imp id (fun ⟨a, ha, hl⟩ => ⟨a, ha, Nat.lt_of_lt_of_le hl hb⟩)⟩
theorem Rdr.keepB {w w' : World} {rb cap B : Nat} {A : Option Addr} {zs : List ByteArray} {L : Int} (h : Rdr w rb A cap zs L) (hl : RdLow rb A zs B) (hb : Below B w w') : Rdr w' rb A cap zs L := by
 refine ⟨(hb.block _ hl.rb).trans h.row, ⟨h.strs.1, ?_⟩, h.off, h.len, h.small⟩
 rcases hl.txt with h0 | ⟨a, ha, hlt⟩
 · exact .inl h0
 · rcases h.strs.2 with h0 | ⟨a', ha', hlt', hc⟩
   · exact .inl h0
   · rw [ha] at ha'
     injection ha' with ha'
     subst ha'
     exact .inr ⟨a, ha, Nat.lt_of_lt_of_le hlt' hb.size, fun i hi => (hb.cell (p := a.add i) (by rw [addr_block]; exact hlt)).trans (hc i hi)⟩
theorem own_keepsR {w w' : World} {rb base m z : Nat} {e : TypeId} {v : Value} {xs : List Value} (h : w.ownsRow base e z v m xs) (hk : Keeps w.heap.size rb w w') (hR : rb < base) : w'.ownsRow base e z v m xs := by
 refine h.kept (row := some rb) ⟨hk.os, hk.tape, hk.output, hk.size, fun k hk1 hne => hk.block k hk1 (fun e => hne (by rw [e]))⟩ ?_
 by_cases hv : v.ownBlock = none
 · exact .inl hv
 · refine .inr (fun e => ?_)
   have := (h.lt rb (by rw [e])).1
   omega
theorem NdAt.keepsR {w w' : World} {rb m : Nat} {n : Nd} {h : Hd} {S : Nat → Prop} (hn : NdAt w S m n h) (hk : Keeps w.heap.size rb w w') (hS : ∀ k, S k → k ≠ rb) : NdAt w' S m n h :=
 hn.map' (fun _ _ h => h) (fun p _ _ hs hc => hc.block (hk.block _ hc.lt (hS _ hs)))
def NRw (w : World) (B : Nat) (v : Value) (q : List (Nd × Hd)) (M : Nat) : Prop :=
 w.ownsRow B nodeT 6 v q.length (rowOf q) ∧ ∀ r ∈ q, NdAt w (fun k => B ≤ k ∧ some k ≠ v.ownBlock) M r.1 r.2
theorem NRw.nil (w : World) (B M : Nat) : NRw w B (.slice none 0 0) [] M := ⟨World.ownsRow_nil _ _ _ _, fun r h => by cases h⟩
theorem NRw.keeps {w w' : World} {B M rb : Nat} {v : Value} {q : List (Nd × Hd)} (h : NRw w B v q M) (hk : Keeps w.heap.size rb w w') (hR : rb < B) : NRw w' B v q M :=
 ⟨own_keepsR h.1 hk hR, fun r hr => (h.2 r hr).keepsR hk (fun k hs e => by have := hs.1; omega)⟩
theorem NRw.next {w3 w4 : World} {B H M : Nat} {v v' : Value} {q : List (Nd × Hd)} {y : Nd} {hy : Hd} (h : NRw w3 B v q M) (hny : NdAt w3 (From H) M y hy) (hBH : B ≤ H) (hvH : ∀ k, v.ownBlock = some k → k < H)
 (hown : w4.ownsRow B nodeT 6 v' (q.length + 1) (rowOf q ++ rowOf [(y, hy)])) (hgrow : w3.grownBy w4 v.ownBlock) (hat : v'.ownBlock = v.ownBlock ∨ v'.ownBlock = some w3.heap.size) : NRw w4 B v' (q ++ [(y, hy)]) M := by
 have hS : ∀ k, k < w3.heap.size → (B ≤ k ∧ some k ≠ v.ownBlock) → (B ≤ k ∧ some k ≠ v'.ownBlock) := fun k hk ⟨h1, h2⟩ => ⟨h1, by
  rcases hat with h | h
  · rw [h]; exact h2
  · rw [h]; intro e; injection e with e; omega⟩
 refine ⟨by rw [List.length_append, rowOf_app]; exact hown, fun r hr => ?_⟩
 rcases List.mem_append.1 hr with hr | hr
 · exact (h.2 r hr).map' hS (fun p _ _ hs hc => hc.block (hgrow.block _ hc.lt hs.2))
 · obtain rfl := List.mem_singleton.1 hr
   have h1 : NdAt w3 (fun k => B ≤ k ∧ some k ≠ v.ownBlock) M y hy := hny.weak (fun k hk => ⟨Nat.le_trans hBH hk, fun e => by have := hvH k e.symm; have : H ≤ k := hk; omega⟩)
   exact h1.map' hS (fun p _ _ hs hc => hc.block (hgrow.block _ hc.lt hs.2))
theorem NRw.nds {w : World} {B M : Nat} {v : Value} {q : List (Nd × Hd)} (h : NRw w B v q M) (hq : q.length ≤ 1000) : ∃ A cap, v = .slice A q.length cap ∧ NdsAt w (From B) (M + 1) A (q.map (·.1)) :=
 nds_of_own h.1 (S := From B) (fun _ h => h) (by unfold maxLen; omega) (fun r hr => (h.2 r hr).weak (fun _ h => h.1))
def NdQ (M rb : Nat) (A : Option Addr) (cap : Nat) (zs : List ByteArray) (L : Int) (n : Nd) (w : World) (e : Ending) (w' : World) : Prop :=
 ∃ h : Hd, e = .returned (.tuple #[.agg #[.int .i64 n.kind, .string n.data, .slice h.A n.ptrs.length h.a, .int .i64 n.size, .int .i64 n.count, .slice h.B n.items.length h.b], .nilIface]) ∧ NdAt w' (From w.heap.size) M n h ∧ Rdr w' rb A cap zs L ∧ Keeps w.heap.size rb w w'
def NsQ (M rb : Nat) (A : Option Addr) (cap : Nat) (zs : List ByteArray) (L : Int) (l : List Nd) (w : World) (e : Ending) (w' : World) : Prop :=
 ∃ (A' : Option Addr) (c' : Nat), e = .returned (.tuple #[.slice A' l.length c', .nilIface]) ∧ NdsAt w' (From w.heap.size) (M + 1) A' l ∧ Rdr w' rb A cap zs L ∧ Keeps w.heap.size rb w w'
theorem take_costs (f : Nd → Nat) (l : List Nd) (k : Nat) (hk : k < l.length) : ((l.take (k + 1)).map f).sum = ((l.take k).map f).sum + f l[k] := by
 rw [List.take_succ_eq_append_getElem hk, List.map_append, List.sum_append]; simp
theorem take_costs_le (f : Nd → Nat) (l : List Nd) (k : Nat) : ((l.take k).map f).sum ≤ (l.map f).sum := by
 have h := congrArg (fun x => (x.map f).sum) (List.take_append_drop k l)
 simp only [List.map_append, List.sum_append] at h
 omega
theorem each_P (f : Nd → Nat) (M : Nat) {w : World} {rb cap : Nat} {A : Option Addr} {zs : List ByteArray} {L : Int} (h : Rdr w rb A cap zs L) (b1 b2 : Nat) (l : List Nd) (j c ws : Nat) (hL : L ≤ 1000) (hl : l.length ≤ 1000) (hc : c ≤ 1000) (hws : ws ≤ 300) (hcost : ((l.map f).sum : Nat) ≤ L)
 (HI : ∀ (k : Nat) (hk : k < l.length) (L' : Int) (W : World), (f l[k] : Int) ≤ L' → L' ≤ 1000 → Keeps w.heap.size rb w W → Rdr W rb A cap zs L' → Calls Tryz.prog 84 #[plV j ((c : Int) + (k : Int) * (ws : Int)), .pointer (some ⟨b1, 0, none⟩), .pointer (some ⟨b2, 0, none⟩)] W (NdQ M rb A cap zs (L' - (f l[k] : Nat)) l[k] W)) :
 Calls Tryz.prog 168 #[plV j c, .int .i64 l.length, .int .i64 ws, .func (.func 84) #[] #[.pointer (some ⟨b1, 0, none⟩), .pointer (some ⟨b2, 0, none⟩)]] w (NsQ M rb A cap zs (L - ((l.map f).sum : Nat)) l w) := by
 obtain ⟨i0, hi, hz0, hz1, hz2⟩ := info_parts infoNd
 have hlow := h.low
 have hb0 := (Below.refl w.heap.size w).alloc (Nat.le_refl _) (.cells #[.int .i64 (j : Int), .int .i64 (c : Int)] 58)
 have hr0 := heap_alloc_new w (.cells #[.int .i64 (j : Int), .int .i64 (c : Int)] 58)
 have hs0 : (w.alloc (.cells #[.int .i64 (j : Int), .int .i64 (c : Int)] 58)).heap.size = w.heap.size + 1 := by simp
 have HR0 := Lib.hid (h.below hb0)
 have HK0 : Hid (Keeps w.heap.size rb w (w.alloc (.cells #[.int .i64 (j : Int), .int .i64 (c : Int)] 58))) := Lib.hid (Keeps.of_below hb0)
 have HX0 := Lib.hid hr0
 have HII := Lib.hid HI
 have HLOW := Lib.hid hlow
 have hrb := hlow.rb
 have HCO := Lib.hid hcost
 clear h hb0 hr0 HI hlow hcost
 go_enter Tryz.func168, Tryz.ntmps168
 go_wp2_with fail
 generalize w.alloc (.cells #[.int .i64 (j : Int), .int .i64 (c : Int)] 58) = W0 at *
 go_loopw [10, 15] (fun v i wr => ∃ (k : Nat), i = .int .i64 k ∧ k ≤ l.length ∧ Hid (∃ q : List (Nd × Hd), q.map (·.1) = l.take k ∧ NRw wr (w.heap.size + 1) v q M) ∧ Hid (wr.heap[w.heap.size]? = some (.cells #[.int .i64 (j : Int), .int .i64 (c : Int)] 58 (0, 0))) ∧ Hid (Rdr wr rb A cap zs (L - (((l.take k).map f).sum : Nat)) ∧ Keeps w.heap.size rb w wr ∧ w.heap.size + 1 ≤ wr.heap.size)) (fun _ i _ => l.length - (intOf i).toNat)
 case atStart => exact ⟨0, rfl, by omega, Lib.hid ⟨[], by simp, NRw.nil _ _ _⟩, HX0, Lib.hid ⟨by simpa using HR0.out, HK0.out, by omega⟩⟩
 case round =>
  obtain ⟨k, rfl, hk, HQ, HX, HP⟩ := hrel
  by_cases hlt : k < l.length
  · obtain ⟨q, hq, hnr⟩ := HQ.out
    obtain ⟨hrd, hkp, hsz⟩ := HP.out
    have hxr := HX.out
    obtain ⟨x0, x1⟩ := cell_pair hxr
    have hql : q.length = k := by have := congrArg List.length hq; simp at this; omega
    have hmul : k * ws ≤ 1000 * 300 := Nat.mul_le_mul (by omega) hws
    have hkw : 0 ≤ (k : Int) * (ws : Int) ∧ (k : Int) * (ws : Int) ≤ 300000 := by rw [← Int.natCast_mul]; omega
    have HE := Lib.hid (w64_sm (n := (k : Int) * (ws : Int)) (by omega) (by omega))
    have hcs := take_costs f l k hlt
    have hcl := take_costs_le f l (k + 1)
    have hco := HCO.out
    have HBH := Lib.hid (fun W : World => behind_a j c ((k : Int) * (ws : Int)) W (by omega) (by omega) (by omega) (by omega))
    obtain ⟨y, hy⟩ : ∃ y, y = l[k] := ⟨_, rfl⟩
    have HC : Hid (∀ W : World, Keeps w.heap.size rb w W → Rdr W rb A cap zs (L - (((l.take k).map f).sum : Nat)) → Calls Tryz.prog 84 #[plV j ((c : Int) + (k : Int) * (ws : Int)), .pointer (some ⟨b1, 0, none⟩), .pointer (some ⟨b2, 0, none⟩)] W (NdQ M rb A cap zs (L - (((l.take (k + 1)).map f).sum : Nat)) y W)) := Lib.hid fun W h1 h2 => by
     have := HII.out k hlt (L - (((l.take k).map f).sum : Nat)) W (by omega) (by omega) h1 h2
     rw [hcs, hy]
     rwa [show L - ((((l.take k).map f).sum + f l[k] : Nat) : Int) = L - (((l.take k).map f).sum : Nat) - (f l[k] : Nat) by omega]
    have HY : Hid (q.map (·.1) ++ [y] = l.take (k + 1)) := Lib.hid (by rw [List.take_succ_eq_append_getElem hlt, hq, hy])
    clear hcs hcl hco hmul
    generalize (c : Int) + (k : Int) * (ws : Int) = pl at *
    have HX1 := Lib.hid hxr
    clear hq hy hxr HQ HX HP
    have HRD := Lib.hid hrd
    have HKP := Lib.hid hkp
    have HNR := Lib.hid hnr
    have HSZ := Lib.hid hsz
    have HQL := Lib.hid hql
    have HKW := Lib.hid hkw
    clear hrd hkp hnr hsz hql hkw
    have e1 := HE.out.1
    have e2 := HE.out.2
    go_wp2_with fail
    clear e1 e2
    refine (HBH.out _).mono ?_
    rintro e w2 ⟨rfl, hb2⟩
    have hR2 := HRD.out.below hb2
    have hK2 := HKP.out.then (by have := HSZ.out; omega) (Keeps.of_below (b := rb) hb2)
    have hN2 := HNR.out.keeps (Keeps.of_below (b := rb) hb2) (by omega)
    have hx2 := (hb2.block _ (row_lt HX1.out)).trans HX1.out
    have HC2 := Lib.hid (HC.out w2 hK2 hR2)
    have HK2 := Lib.hid hK2
    have HN2 := Lib.hid hN2
    have HX2 := Lib.hid hx2
    have hsz2 : w.heap.size + 1 ≤ w2.heap.size := Nat.le_trans HSZ.out hb2.size
    have HSZ2 := Lib.hid hsz2
    clear hR2 hK2 hN2 hx2 hb2 hsz2 x0 x1 HC
    unfold NdQ at HC2
    go_wp2_with fail
    refine HC2.out.mono ?_
    rintro e w3 ⟨hy, rfl, hny, hrd3, hk3⟩
    have hK3 := HK2.out.then (by have := HSZ2.out; omega) hk3
    have hN3 := HN2.out.keeps hk3 (by omega)
    have hx3 := (hk3.block _ (row_lt HX2.out) (by omega)).trans HX2.out
    have hsz3 : w.heap.size + 1 ≤ w3.heap.size := Nat.le_trans HSZ2.out hk3.size
    have hH : ∀ k, u10.ownBlock = some k → k < w2.heap.size := fun k hk => (HN2.out.1.lt k hk).2
    have hge : w.heap.size + 1 ≤ w2.heap.size := HSZ2.out
    have hbb : Below w3.heap.size w3 ((w3.alloc (.cells #[.int .i64 y.kind, .string y.data, .slice hy.A y.ptrs.length hy.a, .int .i64 y.size, .int .i64 y.count, .slice hy.B y.items.length hy.b] nodeT)).alloc (.cells #[.int .i64 y.kind, .string y.data, .slice hy.A y.ptrs.length hy.a, .int .i64 y.size, .int .i64 y.count, .slice hy.B y.items.length hy.b] nodeT)) := ((Below.refl _ _).alloc (Nat.le_refl _) _).alloc (by simp) _
    have HN5 := Lib.hid (hN3.keeps (Keeps.of_below (b := rb) hbb) (by omega))
    have HNY := Lib.hid (hny.below hbb)
    have HR5 := Lib.hid (hrd3.below hbb)
    have HK5 := Lib.hid (hK3.then (by omega) (Keeps.of_below (b := rb) hbb))
    have HX5 := Lib.hid ((hbb.block _ (row_lt hx3)).trans hx3)
    have hs5 : ((w3.alloc (.cells #[.int .i64 y.kind, .string y.data, .slice hy.A y.ptrs.length hy.a, .int .i64 y.size, .int .i64 y.count, .slice hy.B y.items.length hy.b] nodeT)).alloc (.cells #[.int .i64 y.kind, .string y.data, .slice hy.A y.ptrs.length hy.a, .int .i64 y.size, .int .i64 y.count, .slice hy.B y.items.length hy.b] nodeT)).heap.size = w3.heap.size + 2 := by simp
    have HNE : Hid (∀ (i : Nat) (u : Value), (rowOf [(y, hy)])[i]? = some u → ((w3.alloc (.cells #[.int .i64 y.kind, .string y.data, .slice hy.A y.ptrs.length hy.a, .int .i64 y.size, .int .i64 y.count, .slice hy.B y.items.length hy.b] nodeT)).alloc (.cells #[.int .i64 y.kind, .string y.data, .slice hy.A y.ptrs.length hy.a, .int .i64 y.size, .int .i64 y.count, .slice hy.B y.items.length hy.b] nodeT)).cell? ((⟨w3.heap.size + 1, 0, none⟩ : Addr).add i) = some u) := Lib.hid (by
     have := cells_six_new (w3.alloc (.cells #[.int .i64 y.kind, .string y.data, .slice hy.A y.ptrs.length hy.a, .int .i64 y.size, .int .i64 y.count, .slice hy.B y.items.length hy.b] nodeT)) (y, hy) nodeT
     rwa [show (w3.alloc (.cells #[.int .i64 y.kind, .string y.data, .slice hy.A y.ptrs.length hy.a, .int .i64 y.size, .int .i64 y.count, .slice hy.B y.items.length hy.b] nodeT)).heap.size = w3.heap.size + 1 by simp] at this)
    clear hny hrd3 hk3 hK3 hN3 hx3 hbb
    go_wp2_with (at_builtin; go_must (refine wpList_append_own_at _ rfl (.tmp 31) (.tmp 33) nodesT rfl (w.heap.size + 1) nodeT i0 _ 6 88 Tryz.underlying23 hi hz0 hz1 hz2 rfl (by decide) u10 q.length (rowOf q) rfl HN5.out.1 ⟨w3.heap.size + 1, 0, none⟩ 1 1 (rowOf [(y, hy)]) rfl rfl HNE.out (rowOf_one _) (by have := HQL.out; unfold maxLen; omega) (by have := HQL.out; omega) (by rw [hs5]; omega) ?_); intro v6 w6 hown6 hgrow6 hnil6 hat6)
    have hbel : Below (w.heap.size + 1) ((w3.alloc (.cells #[.int .i64 y.kind, .string y.data, .slice hy.A y.ptrs.length hy.a, .int .i64 y.size, .int .i64 y.count, .slice hy.B y.items.length hy.b] nodeT)).alloc (.cells #[.int .i64 y.kind, .string y.data, .slice hy.A y.ptrs.length hy.a, .int .i64 y.size, .int .i64 y.count, .slice hy.B y.items.length hy.b] nodeT)) w6 := (Below.refl _ _).grown hgrow6 (by rw [hs5]; omega) (fun k hk => (HN5.out.1.lt k hk).1)
    have HQ6 : Hid (∃ q' : List (Nd × Hd), q'.map (·.1) = l.take (k + 1) ∧ NRw w6 (w.heap.size + 1) v6 q' M) := Lib.hid ⟨q ++ [(y, hy)], by rw [List.map_append]; exact HY.out, HN5.out.next HNY.out hge hH hown6 hgrow6 hat6⟩
    have HX6 := Lib.hid ((hbel.block _ (by omega)).trans HX5.out)
    have HP6 : Hid (Rdr w6 rb A cap zs (L - (((l.take (k + 1)).map f).sum : Nat)) ∧ Keeps w.heap.size rb w w6 ∧ w.heap.size + 1 ≤ w6.heap.size) := Lib.hid ⟨HR5.out.keepB (HLOW.out.mono (by omega)) hbel, HK5.out.trans (Keeps.of_below (hbel.mono (by omega))), by have := hbel.size; rw [hs5] at this; omega⟩
    clear hown6 hgrow6 hnil6 hat6 hbel hs5 hsz3 hH hge
    go_wp2
    go_roundw
    case rel => exact ⟨k + 1, by go_num, by omega, HQ6, HX6, HP6⟩
    case measure => simp [intOf]; omega
  · obtain ⟨q, hq, hnr⟩ := HQ.out
    obtain ⟨hrd, hkp, hsz⟩ := HP.out
    have hkl : k = l.length := by omega
    have htk : l.take k = l := by rw [hkl]; exact List.take_length
    rw [htk] at hq hrd
    have hql : q.length = l.length := by rw [← hq, List.length_map]
    obtain ⟨A', c', hv, hnds⟩ := hnr.nds (by omega)
    rw [hq] at hnds
    rw [hql] at hv
    subst hv
    have HF : Hid (NdsAt wr (From w.heap.size) (M + 1) A' l ∧ Rdr wr rb A cap zs (L - ((l.map f).sum : Nat)) ∧ Keeps w.heap.size rb w wr) := Lib.hid ⟨hnds.weak (fun k h => by have : w.heap.size + 1 ≤ k := h; show w.heap.size ≤ k; omega), hrd, hkp⟩
    have hkd : ¬ (k : Int) < (l.length : Int) := by omega
    clear hnr hrd hkp hsz hkl htk hq hql hnds HQ HX HP
    go_wp2
    exact bodyPost_ret (v := .tuple #[.slice A' l.length c', .nilIface]) (by simp [results, Tryz.results168, go_sem]) rfl ⟨A', c', rfl, HF.out⟩
theorem each_M (f : Nd → Nat) (M : Nat) {w : World} {rb cap : Nat} {A : Option Addr} {zs : List ByteArray} {L : Int} (h : Rdr w rb A cap zs L) (b1 b2 b3 : Nat) (l : List Nd) (j c ws : Nat) (hL : L ≤ 1000) (hl : l.length ≤ 1000) (hc : c ≤ 1000) (hws : ws ≤ 300) (hcost : ((l.map f).sum : Nat) ≤ L)
 (HI : ∀ (k : Nat) (hk : k < l.length) (L' : Int) (W : World), (f l[k] : Int) ≤ L' → L' ≤ 1000 → Keeps w.heap.size rb w W → Rdr W rb A cap zs L' → Calls Tryz.prog 169 #[plV j ((c : Int) + (k : Int) * (ws : Int)), .pointer (some ⟨b1, 0, none⟩), .pointer (some ⟨b2, 0, none⟩), .pointer (some ⟨b3, 0, none⟩)] W (NdQ M rb A cap zs (L' - (f l[k] : Nat)) l[k] W)) :
 Calls Tryz.prog 168 #[plV j c, .int .i64 l.length, .int .i64 ws, .func (.func 169) #[] #[.pointer (some ⟨b1, 0, none⟩), .pointer (some ⟨b2, 0, none⟩), .pointer (some ⟨b3, 0, none⟩)]] w (NsQ M rb A cap zs (L - ((l.map f).sum : Nat)) l w) := by
 obtain ⟨i0, hi, hz0, hz1, hz2⟩ := info_parts infoNd
 have hlow := h.low
 have hb0 := (Below.refl w.heap.size w).alloc (Nat.le_refl _) (.cells #[.int .i64 (j : Int), .int .i64 (c : Int)] 58)
 have hr0 := heap_alloc_new w (.cells #[.int .i64 (j : Int), .int .i64 (c : Int)] 58)
 have hs0 : (w.alloc (.cells #[.int .i64 (j : Int), .int .i64 (c : Int)] 58)).heap.size = w.heap.size + 1 := by simp
 have HR0 := Lib.hid (h.below hb0)
 have HK0 : Hid (Keeps w.heap.size rb w (w.alloc (.cells #[.int .i64 (j : Int), .int .i64 (c : Int)] 58))) := Lib.hid (Keeps.of_below hb0)
 have HX0 := Lib.hid hr0
 have HII := Lib.hid HI
 have HLOW := Lib.hid hlow
 have hrb := hlow.rb
 have HCO := Lib.hid hcost
 clear h hb0 hr0 HI hlow hcost
 go_enter Tryz.func168, Tryz.ntmps168
 go_wp2_with fail
 generalize w.alloc (.cells #[.int .i64 (j : Int), .int .i64 (c : Int)] 58) = W0 at *
 go_loopw [10, 15] (fun v i wr => ∃ (k : Nat), i = .int .i64 k ∧ k ≤ l.length ∧ Hid (∃ q : List (Nd × Hd), q.map (·.1) = l.take k ∧ NRw wr (w.heap.size + 1) v q M) ∧ Hid (wr.heap[w.heap.size]? = some (.cells #[.int .i64 (j : Int), .int .i64 (c : Int)] 58 (0, 0))) ∧ Hid (Rdr wr rb A cap zs (L - (((l.take k).map f).sum : Nat)) ∧ Keeps w.heap.size rb w wr ∧ w.heap.size + 1 ≤ wr.heap.size)) (fun _ i _ => l.length - (intOf i).toNat)
 case atStart => exact ⟨0, rfl, by omega, Lib.hid ⟨[], by simp, NRw.nil _ _ _⟩, HX0, Lib.hid ⟨by simpa using HR0.out, HK0.out, by omega⟩⟩
 case round =>
  obtain ⟨k, rfl, hk, HQ, HX, HP⟩ := hrel
  by_cases hlt : k < l.length
  · obtain ⟨q, hq, hnr⟩ := HQ.out
    obtain ⟨hrd, hkp, hsz⟩ := HP.out
    have hxr := HX.out
    obtain ⟨x0, x1⟩ := cell_pair hxr
    have hql : q.length = k := by have := congrArg List.length hq; simp at this; omega
    have hmul : k * ws ≤ 1000 * 300 := Nat.mul_le_mul (by omega) hws
    have hkw : 0 ≤ (k : Int) * (ws : Int) ∧ (k : Int) * (ws : Int) ≤ 300000 := by rw [← Int.natCast_mul]; omega
    have HE := Lib.hid (w64_sm (n := (k : Int) * (ws : Int)) (by omega) (by omega))
    have hcs := take_costs f l k hlt
    have hcl := take_costs_le f l (k + 1)
    have hco := HCO.out
    have HBH := Lib.hid (fun W : World => behind_a j c ((k : Int) * (ws : Int)) W (by omega) (by omega) (by omega) (by omega))
    obtain ⟨y, hy⟩ : ∃ y, y = l[k] := ⟨_, rfl⟩
    have HC : Hid (∀ W : World, Keeps w.heap.size rb w W → Rdr W rb A cap zs (L - (((l.take k).map f).sum : Nat)) → Calls Tryz.prog 169 #[plV j ((c : Int) + (k : Int) * (ws : Int)), .pointer (some ⟨b1, 0, none⟩), .pointer (some ⟨b2, 0, none⟩), .pointer (some ⟨b3, 0, none⟩)] W (NdQ M rb A cap zs (L - (((l.take (k + 1)).map f).sum : Nat)) y W)) := Lib.hid fun W h1 h2 => by
     have := HII.out k hlt (L - (((l.take k).map f).sum : Nat)) W (by omega) (by omega) h1 h2
     rw [hcs, hy]
     rwa [show L - ((((l.take k).map f).sum + f l[k] : Nat) : Int) = L - (((l.take k).map f).sum : Nat) - (f l[k] : Nat) by omega]
    have HY : Hid (q.map (·.1) ++ [y] = l.take (k + 1)) := Lib.hid (by rw [List.take_succ_eq_append_getElem hlt, hq, hy])
    clear hcs hcl hco hmul
    generalize (c : Int) + (k : Int) * (ws : Int) = pl at *
    have HX1 := Lib.hid hxr
    clear hq hy hxr HQ HX HP
    have HRD := Lib.hid hrd
    have HKP := Lib.hid hkp
    have HNR := Lib.hid hnr
    have HSZ := Lib.hid hsz
    have HQL := Lib.hid hql
    have HKW := Lib.hid hkw
    clear hrd hkp hnr hsz hql hkw
    have e1 := HE.out.1
    have e2 := HE.out.2
    go_wp2_with fail
    clear e1 e2
    refine (HBH.out _).mono ?_
    rintro e w2 ⟨rfl, hb2⟩
    have hR2 := HRD.out.below hb2
    have hK2 := HKP.out.then (by have := HSZ.out; omega) (Keeps.of_below (b := rb) hb2)
    have hN2 := HNR.out.keeps (Keeps.of_below (b := rb) hb2) (by omega)
    have hx2 := (hb2.block _ (row_lt HX1.out)).trans HX1.out
    have HC2 := Lib.hid (HC.out w2 hK2 hR2)
    have HK2 := Lib.hid hK2
    have HN2 := Lib.hid hN2
    have HX2 := Lib.hid hx2
    have hsz2 : w.heap.size + 1 ≤ w2.heap.size := Nat.le_trans HSZ.out hb2.size
    have HSZ2 := Lib.hid hsz2
    clear hR2 hK2 hN2 hx2 hb2 hsz2 x0 x1 HC
    unfold NdQ at HC2
    go_wp2_with fail
    refine HC2.out.mono ?_
    rintro e w3 ⟨hy, rfl, hny, hrd3, hk3⟩
    have hK3 := HK2.out.then (by have := HSZ2.out; omega) hk3
    have hN3 := HN2.out.keeps hk3 (by omega)
    have hx3 := (hk3.block _ (row_lt HX2.out) (by omega)).trans HX2.out
    have hsz3 : w.heap.size + 1 ≤ w3.heap.size := Nat.le_trans HSZ2.out hk3.size
    have hH : ∀ k, u10.ownBlock = some k → k < w2.heap.size := fun k hk => (HN2.out.1.lt k hk).2
    have hge : w.heap.size + 1 ≤ w2.heap.size := HSZ2.out
    have hbb : Below w3.heap.size w3 ((w3.alloc (.cells #[.int .i64 y.kind, .string y.data, .slice hy.A y.ptrs.length hy.a, .int .i64 y.size, .int .i64 y.count, .slice hy.B y.items.length hy.b] nodeT)).alloc (.cells #[.int .i64 y.kind, .string y.data, .slice hy.A y.ptrs.length hy.a, .int .i64 y.size, .int .i64 y.count, .slice hy.B y.items.length hy.b] nodeT)) := ((Below.refl _ _).alloc (Nat.le_refl _) _).alloc (by simp) _
    have HN5 := Lib.hid (hN3.keeps (Keeps.of_below (b := rb) hbb) (by omega))
    have HNY := Lib.hid (hny.below hbb)
    have HR5 := Lib.hid (hrd3.below hbb)
    have HK5 := Lib.hid (hK3.then (by omega) (Keeps.of_below (b := rb) hbb))
    have HX5 := Lib.hid ((hbb.block _ (row_lt hx3)).trans hx3)
    have hs5 : ((w3.alloc (.cells #[.int .i64 y.kind, .string y.data, .slice hy.A y.ptrs.length hy.a, .int .i64 y.size, .int .i64 y.count, .slice hy.B y.items.length hy.b] nodeT)).alloc (.cells #[.int .i64 y.kind, .string y.data, .slice hy.A y.ptrs.length hy.a, .int .i64 y.size, .int .i64 y.count, .slice hy.B y.items.length hy.b] nodeT)).heap.size = w3.heap.size + 2 := by simp
    have HNE : Hid (∀ (i : Nat) (u : Value), (rowOf [(y, hy)])[i]? = some u → ((w3.alloc (.cells #[.int .i64 y.kind, .string y.data, .slice hy.A y.ptrs.length hy.a, .int .i64 y.size, .int .i64 y.count, .slice hy.B y.items.length hy.b] nodeT)).alloc (.cells #[.int .i64 y.kind, .string y.data, .slice hy.A y.ptrs.length hy.a, .int .i64 y.size, .int .i64 y.count, .slice hy.B y.items.length hy.b] nodeT)).cell? ((⟨w3.heap.size + 1, 0, none⟩ : Addr).add i) = some u) := Lib.hid (by
     have := cells_six_new (w3.alloc (.cells #[.int .i64 y.kind, .string y.data, .slice hy.A y.ptrs.length hy.a, .int .i64 y.size, .int .i64 y.count, .slice hy.B y.items.length hy.b] nodeT)) (y, hy) nodeT
     rwa [show (w3.alloc (.cells #[.int .i64 y.kind, .string y.data, .slice hy.A y.ptrs.length hy.a, .int .i64 y.size, .int .i64 y.count, .slice hy.B y.items.length hy.b] nodeT)).heap.size = w3.heap.size + 1 by simp] at this)
    clear hny hrd3 hk3 hK3 hN3 hx3 hbb
    go_wp2_with (at_builtin; go_must (refine wpList_append_own_at _ rfl (.tmp 31) (.tmp 33) nodesT rfl (w.heap.size + 1) nodeT i0 _ 6 88 Tryz.underlying23 hi hz0 hz1 hz2 rfl (by decide) u10 q.length (rowOf q) rfl HN5.out.1 ⟨w3.heap.size + 1, 0, none⟩ 1 1 (rowOf [(y, hy)]) rfl rfl HNE.out (rowOf_one _) (by have := HQL.out; unfold maxLen; omega) (by have := HQL.out; omega) (by rw [hs5]; omega) ?_); intro v6 w6 hown6 hgrow6 hnil6 hat6)
    have hbel : Below (w.heap.size + 1) ((w3.alloc (.cells #[.int .i64 y.kind, .string y.data, .slice hy.A y.ptrs.length hy.a, .int .i64 y.size, .int .i64 y.count, .slice hy.B y.items.length hy.b] nodeT)).alloc (.cells #[.int .i64 y.kind, .string y.data, .slice hy.A y.ptrs.length hy.a, .int .i64 y.size, .int .i64 y.count, .slice hy.B y.items.length hy.b] nodeT)) w6 := (Below.refl _ _).grown hgrow6 (by rw [hs5]; omega) (fun k hk => (HN5.out.1.lt k hk).1)
    have HQ6 : Hid (∃ q' : List (Nd × Hd), q'.map (·.1) = l.take (k + 1) ∧ NRw w6 (w.heap.size + 1) v6 q' M) := Lib.hid ⟨q ++ [(y, hy)], by rw [List.map_append]; exact HY.out, HN5.out.next HNY.out hge hH hown6 hgrow6 hat6⟩
    have HX6 := Lib.hid ((hbel.block _ (by omega)).trans HX5.out)
    have HP6 : Hid (Rdr w6 rb A cap zs (L - (((l.take (k + 1)).map f).sum : Nat)) ∧ Keeps w.heap.size rb w w6 ∧ w.heap.size + 1 ≤ w6.heap.size) := Lib.hid ⟨HR5.out.keepB (HLOW.out.mono (by omega)) hbel, HK5.out.trans (Keeps.of_below (hbel.mono (by omega))), by have := hbel.size; rw [hs5] at this; omega⟩
    clear hown6 hgrow6 hnil6 hat6 hbel hs5 hsz3 hH hge
    go_wp2
    go_roundw
    case rel => exact ⟨k + 1, by go_num, by omega, HQ6, HX6, HP6⟩
    case measure => simp [intOf]; omega
  · obtain ⟨q, hq, hnr⟩ := HQ.out
    obtain ⟨hrd, hkp, hsz⟩ := HP.out
    have hkl : k = l.length := by omega
    have htk : l.take k = l := by rw [hkl]; exact List.take_length
    rw [htk] at hq hrd
    have hql : q.length = l.length := by rw [← hq, List.length_map]
    obtain ⟨A', c', hv, hnds⟩ := hnr.nds (by omega)
    rw [hq] at hnds
    rw [hql] at hv
    subst hv
    have HF : Hid (NdsAt wr (From w.heap.size) (M + 1) A' l ∧ Rdr wr rb A cap zs (L - ((l.map f).sum : Nat)) ∧ Keeps w.heap.size rb w wr) := Lib.hid ⟨hnds.weak (fun k h => by have : w.heap.size + 1 ≤ k := h; show w.heap.size ≤ k; omega), hrd, hkp⟩
    have hkd : ¬ (k : Int) < (l.length : Int) := by omega
    clear hnr hrd hkp hsz hkl htk hq hql hnds HQ HX HP
    go_wp2
    exact bodyPost_ret (v := .tuple #[.slice A' l.length c', .nilIface]) (by simp [results, Tryz.results168, go_sem]) rfl ⟨A', c', rfl, HF.out⟩
theorem set_row {w : World} {b : Nat} {cs : Array Value} {T : TypeId} (h : w.heap[b]? = some (.cells cs T (0, 0))) (i : Nat) (v : Value) : (w.setCell ⟨b, i, none⟩ v).heap[b]? = some (.cells (cs.setIfInBounds i v) T (0, 0)) := by
 simp [World.setCell, Array.getElem?_modify, h]
theorem store6K {w1 : World} {b : Nat} {T : TypeId} {a0 a1 a2 a3 a4 a5 : Value} (h : w1.heap[b]? = some (.cells #[a0, a1, a2, a3, a4, a5] T (0, 0))) (v0 v1 v2 v3 v4 v5 : Value) :
 ∃ wf, ((((((w1.setCell ⟨b, 0, none⟩ v0).setCell ⟨b, 1, none⟩ v1).setCell ⟨b, 2, none⟩ v2).setCell ⟨b, 3, none⟩ v3).setCell ⟨b, 4, none⟩ v4).setCell ⟨b, 5, none⟩ v5) = wf ∧ wf.heap[b]? = some (.cells #[v0, v1, v2, v3, v4, v5] T (0, 0)) ∧ Keeps w1.heap.size b w1 wf := by
 have h0 := set_row h 0 v0
 have h1 := set_row h0 1 v1
 have h2 := set_row h1 2 v2
 have h3 := set_row h2 3 v3
 have h4 := set_row h3 4 v4
 have h5 := set_row h4 5 v5
 exact ⟨_, rfl, by simpa using h5, (((((set_keeps _ b _ 0 _).trans (set_keeps _ b _ 1 _)).trans (set_keeps _ b _ 2 _)).trans (set_keeps _ b _ 3 _)).trans (set_keeps _ b _ 4 _)).trans (set_keeps _ b _ 5 _)⟩
structure Bx (w : World) (rb b1 b2 : Nat) (d : Nat) : Prop where
 r1 : w.heap[b1]? = some (.cells #[.pointer (some ⟨rb, 0, none⟩)] 64 (0, 0))
 r2 : w.heap[b2]? = some (.cells #[.int .i64 (9 - (d : Int))] 3 (0, 0))
theorem Bx.keeps {w w' : World} {rb b1 b2 d cap : Nat} {A : Option Addr} {zs : List ByteArray} {L : Int} (h : Bx w rb b1 b2 d) (hr : Rdr w rb A cap zs L) (hk : Keeps w.heap.size rb w w') : Bx w' rb b1 b2 d := by
 have n1 : b1 ≠ rb := fun e => by have := h.r1; rw [e, hr.row] at this; simp at this
 have n2 : b2 ≠ rb := fun e => by have := h.r2; rw [e, hr.row] at this; simp at this
 exact ⟨(hk.block _ (row_lt h.r1) n1).trans h.r1, (hk.block _ (row_lt h.r2) n2).trans h.r2⟩
def InC (rb : Nat) (A : Option Addr) (cap : Nat) (zs : List ByteArray) (d : Nat) : Prop :=
 ∀ (n : Nd) (i a : Nat) (L : Int) (W : World) (b1 b2 : Nat), okN d n = true → wordsN d n ≤ 199 → RepN (sgz zs) d n i a → (costN d n : Int) ≤ L → L ≤ 1000 → Rdr W rb A cap zs L → Bx W rb b1 b2 d →
  Calls Tryz.prog 84 #[plV i a, .pointer (some ⟨b1, 0, none⟩), .pointer (some ⟨b2, 0, none⟩)] W (NdQ (2 * d) rb A cap zs (L - (costN d n : Nat)) n W)
theorem NdsAt.keepsR {w w' : World} {rb m : Nat} {A : Option Addr} {l : List Nd} {S : Nat → Prop} (hn : NdsAt w S m A l) (hk : Keeps w.heap.size rb w w') (hS : ∀ k, S k → k ≠ rb) : NdsAt w' S m A l :=
 NdsAt.map' (fun _ _ h => h) (fun p _ _ hs hc => hc.block (hk.block _ hc.lt (hS _ hs))) _ _ _ hn
theorem each_rep {rb cap d : Nat} {A : Option Addr} {zs : List ByteArray} (hI : InC rb A cap zs d) {w : World} {L : Int} (h : Rdr w rb A cap zs L) {b1 b2 : Nat} (hbx : Bx w rb b1 b2 d) (l : List Nd) (j c : Nat) (hok : ∀ p ∈ l, okN d p = true ∧ wordsN d p ≤ 199) (hr : ∀ k (hk : k < l.length), RepN (sgz zs) d l[k] j (c + k)) (hL : L ≤ 1000) (hl : l.length ≤ 1000) (hc : c ≤ 1000) (hcost : ((l.map (costN d)).sum : Nat) ≤ L) :
 Calls Tryz.prog 168 #[plV j c, .int .i64 l.length, .int .i64 1, .func (.func 84) #[] #[.pointer (some ⟨b1, 0, none⟩), .pointer (some ⟨b2, 0, none⟩)]] w (NsQ (2 * d) rb A cap zs (L - ((l.map (costN d)).sum : Nat)) l w) := by
 refine each_P (costN d) (2 * d) h b1 b2 l j c 1 hL hl hc (by decide) hcost (fun k hk L' W h1 h2 h3 h4 => ?_)
 have hm := List.getElem_mem hk
 have := hI l[k] j (c + k) L' W b1 b2 (hok _ hm).1 (hok _ hm).2 (hr k hk) h1 h2 h4 (hbx.keeps h h3)
 rwa [show ((c + k : Nat) : Int) = (c : Int) + (k : Int) * ((1 : Nat) : Int) by omega] at this
theorem body_a {rb cap d : Nat} {A : Option Addr} {zs : List ByteArray} (hI : InC rb A cap zs d) {w : World} {L : Int} (h : Rdr w rb A cap zs L) {b1 b2 : Nat} (hbx : Bx w rb b1 b2 d) (o : Int) (dw : Nat) (data : ByteArray) (l : List Nd) (j c : Nat) (hds : data.size = 8 * dw) (hj : j < zs.length) (hcz : 8 * c + data.size ≤ (zs[j]).size) (hd : zs[j].extract (8 * c) (8 * c + data.size) = data) (hok : ∀ p ∈ l, okN d p = true ∧ wordsN d p ≤ 199) (hr : ∀ k (hk : k < l.length), RepN (sgz zs) d l[k] j (c + dw + k)) (hL : L ≤ 1000) (hl : l.length ≤ 1000) (hcost : ((l.map (costN d)).sum : Nat) ≤ L) :
 Calls Tryz.prog 166 #[.pointer (some ⟨rb, 0, none⟩), .agg #[.int .i64 o, .int .i64 dw, .int .i64 l.length], plV j c, .func (.func 84) #[] #[.pointer (some ⟨b1, 0, none⟩), .pointer (some ⟨b2, 0, none⟩)]] w (NdQ (2 * d + 1) rb A cap zs (L - ((l.map (costN d)).sum : Nat)) (.mk 1 data l 0 0 []) w) := by
 have hsm := (h.small _ (List.getElem_mem hj)).1
 have HBH := Lib.hid (fun W : World => behind_a j c dw W (by omega) (by omega) (by omega) (by omega))
 have HE : Hid (∀ W : World, Keeps w.heap.size rb w W → Rdr W rb A cap zs L → Calls Tryz.prog 168 #[plV j ((c : Int) + (dw : Int)), .int .i64 l.length, .int .i64 1, .func (.func 84) #[] #[.pointer (some ⟨b1, 0, none⟩), .pointer (some ⟨b2, 0, none⟩)]] W (NsQ (2 * d) rb A cap zs (L - ((l.map (costN d)).sum : Nat)) l W)) := Lib.hid fun W h1 h2 => by
  have := each_rep hI h2 (hbx.keeps h h1) l j (c + dw) hok hr hL hl (by omega) hcost
  rwa [show ((c + dw : Nat) : Int) = (c : Int) + (dw : Int) by omega] at this
 have HBA : Hid (∀ (L' : Int) (W : World), Rdr W rb A cap zs L' → Calls Tryz.prog 172 #[.pointer (some ⟨rb, 0, none⟩), plV j c, .int .i64 ((dw : Int) * 8)] W fun e w' => e = .returned (.string data) ∧ Below W.heap.size W w') := Lib.hid fun L' W h1 => by
  have := bytesAt_a h1 j c data.size hj hcz
  rw [hd] at this
  rwa [show (data.size : Int) = (dw : Int) * 8 by omega] at this
 have HW8 := Lib.hid (w64_sm (n := (dw : Int) * 8) (by omega) (by omega))
 have HSD : Hid (data.size ≤ maxLen) := Lib.hid (by unfold maxLen; omega)
 have hlow := h.low
 generalize L - ((l.map (costN d)).sum : Nat) = L2 at *
 generalize (c : Int) + (dw : Int) = pl at *
 have hb0 := (((Below.refl w.heap.size w).alloc (Nat.le_refl _) (.cells #[.int .i64 o, .int .i64 (dw : Int), .int .i64 (l.length : Int)] 168)).alloc (by simp) (.cells #[.int .i64 (j : Int), .int .i64 (c : Int)] 58)).alloc (by simp <;> omega) (.cells #[.int .i64 0, .string { data := #[] }, .slice none 0 0, .int .i64 0, .int .i64 0, .slice none 0 0] nodeT)
 have HR0 := Lib.hid (h.below hb0)
 have HK0 := Lib.hid (Keeps.of_below (b := rb) hb0)
 have HLOW := Lib.hid hlow
 clear hI h hbx hds hj hcz hd hok hr hcost hsm hb0 hlow
 go_enter Tryz.func166, Tryz.ntmps166
 go_wp2_with fail
 have hr0 : (((w.alloc (.cells #[.int .i64 o, .int .i64 (dw : Int), .int .i64 (l.length : Int)] 168)).alloc (.cells #[.int .i64 (j : Int), .int .i64 (c : Int)] 58)).alloc (.cells #[.int .i64 0, .string { data := #[] }, .slice none 0 0, .int .i64 0, .int .i64 0, .slice none 0 0] nodeT)).heap[w.heap.size]? = some (.cells #[.int .i64 o, .int .i64 (dw : Int), .int .i64 (l.length : Int)] 168 (0, 0)) := (Below.heap_alloc _ _ _ (by simp <;> omega)).trans ((Below.heap_alloc _ _ _ (by simp)).trans (heap_alloc_new w _))
 have hr1 : (((w.alloc (.cells #[.int .i64 o, .int .i64 (dw : Int), .int .i64 (l.length : Int)] 168)).alloc (.cells #[.int .i64 (j : Int), .int .i64 (c : Int)] 58)).alloc (.cells #[.int .i64 0, .string { data := #[] }, .slice none 0 0, .int .i64 0, .int .i64 0, .slice none 0 0] nodeT)).heap[w.heap.size + 1]? = some (.cells #[.int .i64 (j : Int), .int .i64 (c : Int)] 58 (0, 0)) := (Below.heap_alloc _ _ _ (by simp)).trans (heap_alloc2_new w _ _)
 have hr2 : (((w.alloc (.cells #[.int .i64 o, .int .i64 (dw : Int), .int .i64 (l.length : Int)] 168)).alloc (.cells #[.int .i64 (j : Int), .int .i64 (c : Int)] 58)).alloc (.cells #[.int .i64 0, .string { data := #[] }, .slice none 0 0, .int .i64 0, .int .i64 0, .slice none 0 0] nodeT)).heap[w.heap.size + 1 + 1]? = some (.cells #[.int .i64 0, .string { data := #[] }, .slice none 0 0, .int .i64 0, .int .i64 0, .slice none 0 0] nodeT (0, 0)) := by
  have := heap_alloc_new ((w.alloc (.cells #[.int .i64 o, .int .i64 (dw : Int), .int .i64 (l.length : Int)] 168)).alloc (.cells #[.int .i64 (j : Int), .int .i64 (c : Int)] 58)) (.cells #[.int .i64 0, .string { data := #[] }, .slice none 0 0, .int .i64 0, .int .i64 0, .slice none 0 0] nodeT)
  rwa [show ((w.alloc (.cells #[.int .i64 o, .int .i64 (dw : Int), .int .i64 (l.length : Int)] 168)).alloc (.cells #[.int .i64 (j : Int), .int .i64 (c : Int)] 58)).heap.size = w.heap.size + 1 + 1 by simp] at this
 generalize ((w.alloc (.cells #[.int .i64 o, .int .i64 (dw : Int), .int .i64 (l.length : Int)] 168)).alloc (.cells #[.int .i64 (j : Int), .int .i64 (c : Int)] 58)).alloc (.cells #[.int .i64 0, .string { data := #[] }, .slice none 0 0, .int .i64 0, .int .i64 0, .slice none 0 0] nodeT) = W at *
 have s0 : W.cell? ⟨w.heap.size, 1, none⟩ = some (.int .i64 (dw : Int)) := by rw [cell_of_row _ _ _ _ _ _ hr0]; rfl
 have s1 : W.cell? ⟨w.heap.size, 2, none⟩ = some (.int .i64 (l.length : Int)) := by rw [cell_of_row _ _ _ _ _ _ hr0]; rfl
 obtain ⟨t0, t1⟩ := cell_pair hr1
 have R0 := Lib.hid hr0
 have R1 := Lib.hid hr1
 have R2 := Lib.hid hr2
 clear hr0 hr1 hr2
 have hdr : (W.drew).heap.size = W.heap.size := rfl
 have HRD : Hid (Rdr W.drew rb A cap zs L) := Lib.hid (HR0.out.below (⟨rfl, rfl, rfl, Nat.le_refl _, fun _ _ => rfl⟩ : Below W.heap.size W W.drew))
 have HKD : Hid (Keeps w.heap.size rb w W.drew) := Lib.hid HK0.out.drew
 go_region_with (first | (go_at_call 118; go_must (refine (HBH.out _).mono ?_); rintro e w2 ⟨rfl, hb2⟩; have r0 := (hb2.block _ (row_lt R0.out)).trans R0.out; have u0 : w2.cell? ⟨w.heap.size, 1, none⟩ = some (.int .i64 (dw : Int)) := (by rw [cell_of_row _ _ _ _ _ _ r0]; rfl); have u1 : w2.cell? ⟨w.heap.size, 2, none⟩ = some (.int .i64 (l.length : Int)) := (by rw [cell_of_row _ _ _ _ _ _ r0]; rfl)) | (go_at_call 168; go_must (refine (HE.out _ (HKD.out.trans (Keeps.of_below (hb2.mono HKD.out.size))) (HRD.out.below hb2)).mono ?_); rintro e w3 ⟨A', c', rfl, hnds, hrd3, hk3⟩))
 all_goals
  have hsz2 : w.heap.size + 1 + 1 < w2.heap.size := by have := hb2.size; have := row_lt R2.out; have : W.drew.heap.size = W.heap.size := rfl; omega
  have hrl := HLOW.out.rb
  have hK3 := (HKD.out.trans (Keeps.of_below (hb2.mono HKD.out.size))).trans (hk3.mono (show w.heap.size ≤ w2.heap.size by omega))
  have q0 := (hk3.block _ (by omega) (by omega)).trans ((hb2.block _ (row_lt R0.out)).trans R0.out)
  have q1 := (hk3.block _ (by omega) (by omega)).trans ((hb2.block _ (row_lt R1.out)).trans R1.out)
  have q2 := (hk3.block _ (by omega) (by omega)).trans ((hb2.block _ (row_lt R2.out)).trans R2.out)
  have HK3 := Lib.hid hK3
  have Q2 := Lib.hid q2
  have HND := Lib.hid hnds
  have HRD3 := Lib.hid hrd3
  have v0 : w3.cell? ⟨w.heap.size, 1, none⟩ = some (.int .i64 (dw : Int)) := (by rw [cell_of_row _ _ _ _ _ _ q0]; rfl)
  obtain ⟨x0, x1⟩ := cell_pair q1
  have HH : Hid (w.heap.size + 1 + 1 < w2.heap.size ∧ w2.heap.size ≤ w3.heap.size) := Lib.hid ⟨hsz2, hk3.size⟩
  clear u0 u1 r0 hK3 q0 q1 q2 hk3 hrd3 hnds s0 s1 t0 t1 hsz2 hrl
  have e1 := HW8.out.1
  have e2 := HW8.out.2
  go_wp2_with fail
  refine (HBA.out _ _ HRD3.out).mono ?_
  rintro e w4 ⟨rfl, hb4⟩
  have q4 := (hb4.block _ (row_lt Q2.out)).trans Q2.out
  have Q4 := Lib.hid q4
  have HB4 := Lib.hid hb4
  obtain ⟨c0, c1, c2, c3, c4, c5⟩ := cells6 q4
  have hfz := row_free q4
  clear e1 e2 x0 x1 v0 q4 hb4
  go_wp2
  obtain ⟨wf, hwf, hrw, hkf⟩ := store6K Q4.out (.int .i64 1) (.string data) (.slice A' l.length c') (.int .i64 0) (.int .i64 0) (.slice none 0 0)
  rw [hwf]
  obtain ⟨e0, e1, e2, e3, e4, e5⟩ := cells6 hrw
  have hbf : Below w.heap.size w4 wf := hkf.below (by have := HH.out; have := HB4.out.size; omega) (by omega)
  have hbf3 : Below w.heap.size w3 wf := (HB4.out.mono (by have := HH.out; omega)).trans hbf
  exact bodyPost_ret (v := .tuple #[.agg #[.int .i64 1, .string data, .slice A' l.length c', .int .i64 0, .int .i64 0, .slice none 0 0], .nilIface])
   (by simp [results, Tryz.results166, go_sem, e0, e1, e2, e3, e4, e5]) rfl
   ⟨⟨A', c', none, 0⟩, rfl, ⟨HSD.out, ((HND.out.below HB4.out).keepsR hkf (fun k (hk : w2.heap.size ≤ k) => by have := HH.out; omega)).weak (fun k (hk : w2.heap.size ≤ k) => by have := HH.out; show w.heap.size ≤ k; omega), NdsAt.nil _ _ _ _⟩, HRD3.out.keepB HLOW.out hbf3, HK3.out.trans (Keeps.of_below hbf3)⟩
end Go.Proofs.YtlbfffokkhccaaaGreatDoor
