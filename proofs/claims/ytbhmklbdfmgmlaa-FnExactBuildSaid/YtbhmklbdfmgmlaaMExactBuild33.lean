/- Texts of the proof of the law FnExactBuild, side by side: part 33. -/
import Derived.Deep.RegionWith
import Derived.Test.YtbhmklbdfmgmlaaMExactBuild00
import Derived.Test.YtbhmklbdfmgmlaaMExactBuild01
import Derived.Test.YtbhmklbdfmgmlaaMExactBuild02
import Derived.Test.YtbhmklbdfmgmlaaMExactBuild03
import Derived.Test.YtbhmklbdfmgmlaaMExactBuild04
import Derived.Test.YtbhmklbdfmgmlaaMExactBuild05
import Derived.Test.YtbhmklbdfmgmlaaMExactBuild06
import Derived.Test.YtbhmklbdfmgmlaaMExactBuild07
import Derived.Test.YtbhmklbdfmgmlaaMExactBuild08
import Derived.Test.YtbhmklbdfmgmlaaMExactBuild09
import Derived.Test.YtbhmklbdfmgmlaaMExactBuild10
import Derived.Test.YtbhmklbdfmgmlaaMExactBuild11
import Derived.Test.YtbhmklbdfmgmlaaMExactBuild12
import Derived.Test.YtbhmklbdfmgmlaaMExactBuild13
import Derived.Test.YtbhmklbdfmgmlaaMExactBuild14
import Derived.Test.YtbhmklbdfmgmlaaMExactBuild15
import Derived.Test.YtbhmklbdfmgmlaaMExactBuild16
import Derived.Test.YtbhmklbdfmgmlaaMExactBuild17
import Derived.Test.YtbhmklbdfmgmlaaMExactBuild18
import Derived.Test.YtbhmklbdfmgmlaaMExactBuild19
import Derived.Test.YtbhmklbdfmgmlaaMExactBuild20
import Derived.Test.YtbhmklbdfmgmlaaMExactBuild21
import Derived.Test.YtbhmklbdfmgmlaaMExactBuild22
import Derived.Test.YtbhmklbdfmgmlaaMExactBuild23
import Derived.Test.YtbhmklbdfmgmlaaMExactBuild24
import Derived.Test.YtbhmklbdfmgmlaaMExactBuild25
import Derived.Test.YtbhmklbdfmgmlaaMExactBuild26
import Derived.Test.YtbhmklbdfmgmlaaMExactBuild27
import Derived.Test.YtbhmklbdfmgmlaaMExactBuild28
import Derived.Test.YtbhmklbdfmgmlaaMExactBuild29
import Derived.Test.YtbhmklbdfmgmlaaMExactBuild30
import Derived.Test.YtbhmklbdfmgmlaaMExactBuild31
import Derived.Test.YtbhmklbdfmgmlaaMExactBuild32
/- The laws' markNode and heldNode. -/
namespace Go.Proofs.Ytbhmklbdfmgmlaa
open Go.RowKit Go.Deep
/-- what markNode leaves of a node. -/
def MkN (m : Nat) (n : Nd) (h : Hd) (bs : List Nat) (w : World) (q : Nat) (e : Ending) (w' : World) : Prop := ∃ (p i : List Nd) (q1 q2 : Nat), e = .returned (.int .i64 (q2 : Int)) ∧ q2 ≤ 200000000 ∧ p.length = n.ptrs.length ∧ i.length = n.items.length ∧ OwN w' m (.mk n.kind n.data p n.size n.count i) h bs ∧ HelS m p q q1 ∧ HelS m i q1 q2 ∧ OnlyIn bs w w'
set_option maxHeartbeats 4000000 in
set_option maxRecDepth 100000 in
theorem markNode_any (m : Nat) (n : Nd) (h : Hd) (bs : List Nat) (w : World) (q : Nat) (hn : OwN w m n h bs) (hnd : bs.Nodup) (h1 : 1 ≤ q) (h2 : q + 4 * sizN n ≤ 100000000) :
    Calls Try.prog 13 #[.agg #[.int .i64 n.kind, .string n.data, .slice h.A n.ptrs.length h.a, .int .i64 n.size, .int .i64 n.count, .slice h.B n.items.length h.b], .int .i64 (q : Int)] w (MkN m n h bs w q) := by
  obtain ⟨qA, qa, qB, qb⟩ := h
  rw [sizN_eq] at h2
  have hlt := fun b hb => (hn.lt b hb).1
  obtain ⟨hdm, b1, b2, hbs, o1, o2⟩ := hn
  have hnd' := hnd
  rw [hbs] at hnd'
  have hnp := List.nodup_append.1 hnd'
  have hba : Below w.heap.size w (w.alloc (.cells #[.int .i64 n.kind, .string n.data, .slice qA n.ptrs.length qa, .int .i64 n.size, .int .i64 n.count, .slice qB n.items.length qb] nodeT)) := (Below.refl _ _).alloc (Nat.le_refl _) _
  have HP := Lib.hid (heap_alloc_new w (.cells #[.int .i64 n.kind, .string n.data, .slice qA n.ptrs.length qa, .int .i64 n.size, .int .i64 n.count, .slice qB n.items.length qb] nodeT))
  have HC1 := Lib.hid (mkS_any m qA qa n.ptrs b1 _ q (OwS.below o1 hba) hnp.1 h1 (by omega))
  have HO2 := Lib.hid (OwS.below o2 hba)
  have HBA := Lib.hid (OnlyIn.of_below (bs := bs) hba)
  have HDS := Lib.hid hnp.2.2
  have HN2 := Lib.hid hnp.2.1
  have HLT := Lib.hid hlt
  have HBS := Lib.hid hbs
  have HDM := Lib.hid hdm
  have hsz : (w.alloc (.cells #[.int .i64 n.kind, .string n.data, .slice qA n.ptrs.length qa, .int .i64 n.size, .int .i64 n.count, .slice qB n.items.length qb] nodeT)).heap.size = w.heap.size + 1 := by simp
  clear o1 o2 hnd hnd' hnp hba hlt hbs hdm
  unfold MkN
  go_enter Try.func13, Try.ntmps13
  go_wp2_with fail
  generalize w.alloc (.cells #[.int .i64 n.kind, .string n.data, .slice qA n.ptrs.length qa, .int .i64 n.size, .int .i64 n.count, .slice qB n.items.length qb] nodeT) = W at *
  refine HC1.out.mono ?_
  rintro e w1 ⟨p, q1, rfl, ha, hb, hl, hop, hhp, hoi⟩
  have hp1 := (hoi.block w.heap.size (by omega) (fun hm => by have := HLT.out _ (by rw [HBS.out]; exact List.mem_append_left _ hm); omega)).trans HP.out
  obtain ⟨a0, a1, a2, a3, a4, a5⟩ := cells6 hp1
  have HO21 : Hid (OwS w1 m qB qb n.items b2) := Lib.hid (HO2.out.frame _ _ _ _ _ (fun b hb => hoi.block b (HO2.out.lt _ _ _ _ _ b hb).1 (fun hm => HDS.out b hm b hb rfl)))
  have HC2 := Lib.hid (mkS_any m qB qb n.items b2 w1 q1 HO21.out HN2.out (by omega) (by omega))
  have HB1 := Lib.hid (HBA.out.trans (hoi.mono (fun b hb => .inl (by rw [HBS.out]; exact List.mem_append_left _ hb))))
  have HOP := Lib.hid hop
  have HHP := Lib.hid (And.intro hhp hl)
  clear hop hhp hoi hp1 hl HC1 HO2 HBA
  go_wp2_with fail
  refine HC2.out.mono ?_
  rintro e w2 ⟨i, q2, rfl, ha2, hb2, hl2, hoi2, hhi, hoj⟩
  have HFIN : Hid (∃ (p' i' : List Nd) (q1' q2' : Nat), Ending.returned (.int .i64 (q2 : Int)) = .returned (.int .i64 (q2' : Int)) ∧ q2' ≤ 200000000 ∧ p'.length = n.ptrs.length ∧ i'.length = n.items.length ∧ OwN w2 m (.mk n.kind n.data p' n.size n.count i') ⟨qA, qa, qB, qb⟩ bs ∧ HelS m p' q q1' ∧ HelS m i' q1' q2' ∧ OnlyIn bs w w2) := Lib.hid ⟨p, i, q1, q2, rfl, by omega, HHP.out.2, hl2, ⟨HDM.out, b1, b2, HBS.out, HOP.out.frame _ _ _ _ _ (fun b hb => hoj.block b (HOP.out.lt _ _ _ _ _ b hb).1 (fun hm => HDS.out b hb b hm rfl)), hoi2⟩, HHP.out.1, hhi, HB1.out.trans (hoj.mono (fun b hb => .inl (by rw [HBS.out]; exact List.mem_append_right _ hb)))⟩
  clear hoi2 hhi hoj a0 a1 a2 a3 a4 a5
  go_wp2
  go_ret
  exact HFIN.out
end Go.Proofs.Ytbhmklbdfmgmlaa

/- The walk of the exact law of Build. -/
namespace Go.Proofs.Ytbhmklbdfmgmlaa
open Go.RowKit Go.Deep
theorem own_belowX {w w' : World} {B e n : Nat} {v : Value} {xs : List Value} (h : w.ownsRow B e 1 v n xs) (hb : Below w.heap.size w w') : w'.ownsRow B e 1 v n xs :=
  own_keepB h (fun k hk => hb.block k (h.lt k hk).2)
theorem own_shapeX {w : World} {B e n : Nat} {v : Value} {xs : List Value} (h : w.ownsRow B e 1 v n xs) : ∃ A cap, v = .slice A n cap := by
  rcases h.2 with ⟨rfl, rfl⟩ | ⟨g, cap, _, rfl, _⟩
  · exact ⟨none, 0, rfl⟩
  · exact ⟨_, cap, rfl⟩
theorem strs_ownX {w : World} {base n cap : Nat} {e : TypeId} {A : Option Addr} {ss : List ByteArray} (h : w.ownsRow base e 1 (.slice A n cap) n (ss.map Value.string)) (hs : ∀ s ∈ ss, s.size ≤ maxLen) : Strs w A ss := by
  rcases h.2 with ⟨_, h0⟩ | ⟨g, cap, _, he, _⟩
  · have : ss = [] := by
      have h1 := h.1
      rw [h0] at h1
      exact List.eq_nil_of_length_eq_zero (by simpa using h1)
    subst this
    exact Strs.nil _ _
  · injection he with e1 e2 e3
    subst e1
    refine ⟨hs, .inr ⟨_, rfl, (h.lt g rfl).2, fun i hi => ?_⟩⟩
    exact h.cells (g := g) rfl i _ (by rw [List.getElem?_map, List.getElem?_eq_getElem hi]; rfl)
def txR (r : Option Segs) : List ByteArray := txS (r.getD [])
theorem txS_str (ss : Segs) : ss.map strS = (txS ss).map Value.string := by simp [txS]
theorem BuildQ.uni {r : Option Segs} {w : World} {e : Ending} {w' : World} (h : BuildQ r w e w') : ∃ A c, e = .returned (.tuple #[.slice A (txR r).length c, .bool r.isSome]) ∧ w'.ownsRow w.heap.size 9 1 (.slice A (txR r).length c) (txR r).length ((txR r).map Value.string) ∧ Below w.heap.size w w' := by
  rcases h with ⟨rfl, rfl, hb⟩ | ⟨ss, A, c, rfl, rfl, ho, hb⟩
  · exact ⟨none, 0, rfl, ⟨rfl, .inl ⟨rfl, rfl⟩⟩, hb⟩
  · refine ⟨A, c, ?_, ?_, hb⟩
    · unfold txR; rw [txS_length]; rfl
    · unfold txR; rw [Option.getD_some, txS_length, ← txS_str]; exact ho
theorem BuildSQ.uni {r : Option Segs} {w : World} {e : Ending} {w' : World} (h : BuildSQ r w e w') : ∃ A c, e = .returned (.tuple #[.slice A (txR r).length c, .bool r.isSome]) ∧ Strs w' A (txR r) ∧ (∀ x ∈ txR r, x.size ≤ maxLen) ∧ (txR r).length ≤ 6 ∧ Below w.heap.size w w' := by
  rcases h with ⟨rfl, A, c, rfl, hb⟩ | ⟨ss, A, c, rfl, hk, rfl, ho, hb⟩
  · exact ⟨A, c, rfl, Strs.nil _ _, (fun x hx => by cases hx), by decide, hb⟩
  · have hmx : ∀ x ∈ txS ss, x.size ≤ maxLen := fun s hs => by
      obtain ⟨x, hx, rfl⟩ := List.mem_map.1 hs
      obtain ⟨i, hi, e⟩ := List.getElem_of_mem hx
      have h1 := sb_len hk i
      rw [sg_eq hi, e] at h1
      have hs : (⟨x.toArray⟩ : ByteArray).size = x.length := by simp [ByteArray.size]
      rw [hs]
      unfold maxLen
      omega
    have hs : Strs w' A (txS ss) := strs_ownX (cap := c) (n := ss.length) (by rw [← txS_str]; exact ho) hmx
    refine ⟨A, c, ?_, hs, hmx, by rw [show txR (some ss) = txS ss from rfl, txS_length]; exact hk.six, hb⟩
    unfold txR; rw [txS_length]; rfl
set_option maxHeartbeats 8000000 in
set_option maxRecDepth 100000 in
theorem walkExactBuild (w : World) (m : Nat) (n : Nd) (h : Hd) (hn : NdAt w Any m n h) (size : Int) (_hz : (Lit.int .i64 size).wf = true) :
    Calls Try.prog 3 #[.agg #[.int .i64 n.kind, .string n.data, .slice h.A n.ptrs.length h.a, .int .i64 n.size, .int .i64 n.count, .slice h.B n.items.length h.b], .int .i64 size] w fun e w' => e = .returned (.bool true) ∧ Below w.heap.size w w' := by
  have hb0 : Below w.heap.size w (w.alloc (.cells #[.int .i64 n.kind, .string n.data, .slice h.A n.ptrs.length h.a, .int .i64 n.size, .int .i64 n.count, .slice h.B n.items.length h.b] 24)) := (Below.refl _ _).alloc (Nat.le_refl _) _
  have HB0 := Lib.hid hb0
  have HP0 := Lib.hid (heap_alloc_new w (.cells #[.int .i64 n.kind, .string n.data, .slice h.A n.ptrs.length h.a, .int .i64 n.size, .int .i64 n.count, .slice h.B n.items.length h.b] 24))
  have HSZ := Lib.hid (szN_any m n h (w.alloc (.cells #[.int .i64 n.kind, .string n.data, .slice h.A n.ptrs.length h.a, .int .i64 n.size, .int .i64 n.count, .slice h.B n.items.length h.b] 24)) 1048576 Any (hn.below hb0) (by decide) (by decide))
  by_cases hbig : (1048576 : Int) < (totN m n : Nat)
  · rw [szR_neg hbig] at HSZ
    clear hn hbig hb0
    go_enter Try.func3, Try.ntmps3
    go_wp2_with fail
    refine HSZ.out.mono ?_
    rintro e w1 ⟨rfl, hb1⟩
    have HB1 := Lib.hid (HB0.out.trans (hb1.mono HB0.out.size))
    clear hb1
    go_wp2
    go_ret
    exact ⟨rfl, HB1.out⟩
  have ht : totN m n ≤ 2000000 := by omega
  rw [szR_pos (by omega)] at HSZ
  have hl0 : ¬ ((1048576 : Int) - (totN m n : Nat) < 0) := by omega
  have hsn : sizN n ≤ 2000000 := by rw [← totN_siz hn]; exact ht
  have HTA : Hid (∀ W : World, Below w.heap.size w W → Calls Try.prog 9 #[.agg #[.int .i64 n.kind, .string n.data, .slice h.A n.ptrs.length h.a, .int .i64 n.size, .int .i64 n.count, .slice h.B n.items.length h.b]] W (NewO m n W)) := Lib.hid fun W hW => toNO_any m n h W Any (hn.below hW) ht
  have HSC : Hid (∀ (W : World) (y : Hd) (S : Nat → Prop), NdAt W S m n y → Calls Try.prog 8 #[.agg #[.int .i64 n.kind, .string n.data, .slice y.A n.ptrs.length y.a, .int .i64 n.size, .int .i64 n.count, .slice y.B n.items.length y.b], .int .i64 size] W (fun e w' => ∃ A c, e = .returned (.tuple #[.slice A (txR (bldV n size)).length c, .bool (bldV n size).isSome]) ∧ Strs w' A (txR (bldV n size)) ∧ (∀ x ∈ txR (bldV n size), x.size ≤ maxLen) ∧ (txR (bldV n size)).length ≤ 6 ∧ Below W.heap.size W w')) := Lib.hid fun W y S hy => (specBuild_a m n y W S size hy ht).mono (fun _ _ h => h.uni)
  have HIC : Hid (∀ (W : World) (y : Hd) (S : Nat → Prop), NdAt W S m n y → Calls Try.prog 10 #[.agg #[.int .i64 n.kind, .string n.data, .slice y.A n.ptrs.length y.a, .int .i64 n.size, .int .i64 n.count, .slice y.B n.items.length y.b], .int .i64 size] W (fun e w' => ∃ A c, e = .returned (.tuple #[.slice A (txR (bldV n size)).length c, .bool (bldV n size).isSome]) ∧ w'.ownsRow W.heap.size 9 1 (.slice A (txR (bldV n size)).length c) (txR (bldV n size)).length ((txR (bldV n size)).map Value.string) ∧ Below W.heap.size W w')) := Lib.hid fun W y S hy => (implBuild_a m n y W S size hy ht).mono (fun _ _ h => h.uni)
  have HEN : Hid (∀ (y z : Hd) (W : World) (S S' : Nat → Prop), NdAt W S m n y → NdAt W S' m n z → Calls Try.prog 12 #[.agg #[.int .i64 n.kind, .string n.data, .slice y.A n.ptrs.length y.a, .int .i64 n.size, .int .i64 n.count, .slice y.B n.items.length y.b], .agg #[.int .i64 n.kind, .string n.data, .slice z.A n.ptrs.length z.a, .int .i64 n.size, .int .i64 n.count, .slice z.B n.items.length z.b]] W fun e w' => e = .returned (.bool true) ∧ Below W.heap.size W w') := Lib.hid fun y z W S S' a b => eqN_any m n y z W S S' a b ht
  have HMN : Hid (∀ (y : Hd) (bs : List Nat) (W : World), OwN W m n y bs → bs.Nodup → Calls Try.prog 13 #[.agg #[.int .i64 n.kind, .string n.data, .slice y.A n.ptrs.length y.a, .int .i64 n.size, .int .i64 n.count, .slice y.B n.items.length y.b], .int .i64 1] W (MkN m n y bs W 1)) := Lib.hid fun y bs W a b => markNode_any m n y bs W 1 a b (by omega) (by omega)
  generalize txR (bldV n size) = ss at *
  generalize (bldV n size).isSome = ok at *
  clear hn hbig hb0 ht hsn
  unfold NewO at HTA
  unfold MkN at HMN
  go_enter Try.func3, Try.ntmps3
  go_wp2_with fail
  generalize w.alloc (.cells #[.int .i64 n.kind, .string n.data, .slice h.A n.ptrs.length h.a, .int .i64 n.size, .int .i64 n.count, .slice h.B n.items.length h.b] 24) = V0 at *
  refine HSZ.out.mono ?_
  rintro e w1 ⟨rfl, hb1⟩
  have HB1 := Lib.hid (HB0.out.trans (hb1.mono HB0.out.size))
  have HP1 := Lib.hid ((hb1.block _ (row_lt HP0.out)).trans HP0.out)
  generalize (1048576 : Int) - (totN m n : Nat) = lf at *
  clear hb1 HSZ
  obtain ⟨a0, a1, a2, a3, a4, a5⟩ := cells6 HP1.out
  go_wp2_with fail
  refine (HTA.out _ HB1.out).mono ?_
  rintro e w2 ⟨h2, bs2, rfl, ho2, hd2, hg2, hb2⟩
  have HB2 := Lib.hid (HB1.out.trans (hb2.mono HB1.out.size))
  have HP2 := Lib.hid ((hb2.block _ (row_lt HP1.out)).trans HP1.out)
  have HC := Lib.hid (HSC.out w2 h2 _ ho2.nd)
  clear hb2 ho2 hd2 hg2 a0 a1 a2 a3 a4 a5
  go_wp2_with fail
  refine HC.out.mono ?_
  rintro e w3 ⟨A0, c0, rfl, hst0, hmx, hl6, hb3⟩
  clear HC
  have HST := Lib.hid hst0
  have HMX := Lib.hid hmx
  have HB3 := Lib.hid (HB2.out.trans (hb3.mono HB2.out.size))
  have HP3 := Lib.hid ((hb3.block _ (row_lt HP2.out)).trans HP2.out)
  obtain ⟨a0, a1, a2, a3, a4, a5⟩ := cells6 HP3.out
  clear hb3 hst0 hmx
  go_wp2_with fail
  refine (HTA.out _ HB3.out).mono ?_
  rintro e w5 ⟨h5, bs5, rfl, ho5, hd5, hg5, hb5⟩
  have hba : Below w5.heap.size w5 (w5.alloc (.cells #[.int .i64 n.kind, .string n.data, .slice h5.A n.ptrs.length h5.a, .int .i64 n.size, .int .i64 n.count, .slice h5.B n.items.length h5.b] nodeT)) := (Below.refl _ _).alloc (Nat.le_refl _) _
  have HX5 := Lib.hid (hb5.trans (hba.mono hb5.size))
  have HS5 := Lib.hid (heap_alloc_new w5 (.cells #[.int .i64 n.kind, .string n.data, .slice h5.A n.ptrs.length h5.a, .int .i64 n.size, .int .i64 n.count, .slice h5.B n.items.length h5.b] nodeT))
  have HO5 := Lib.hid (ho5.below hba)
  have HD5 : Hid (bs5.Nodup ∧ ∀ b ∈ bs5, w3.heap.size ≤ b ∧ b < w5.heap.size) := Lib.hid ⟨hd5, fun b hb => ⟨hg5 b hb, (ho5.lt b hb).1⟩⟩
  have hs5' : (w5.alloc (.cells #[.int .i64 n.kind, .string n.data, .slice h5.A n.ptrs.length h5.a, .int .i64 n.size, .int .i64 n.count, .slice h5.B n.items.length h5.b] nodeT)).heap.size = w5.heap.size + 1 := by simp
  clear hb5 ho5 hd5 hg5 hba a0 a1 a2 a3 a4 a5
  have HC := Lib.hid (HIC.out _ h5 _ HO5.out.nd)
  go_wp2_with fail
  generalize w5.alloc (.cells #[.int .i64 n.kind, .string n.data, .slice h5.A n.ptrs.length h5.a, .int .i64 n.size, .int .i64 n.count, .slice h5.B n.items.length h5.b] nodeT) = V5 at *
  refine HC.out.mono ?_
  rintro e w6 ⟨A1, c1, rfl, hown, hb6⟩
  clear HC
  have HX6 := Lib.hid (HX5.out.trans (hb6.mono HX5.out.size))
  have HO := Lib.hid hown
  have HS6 := Lib.hid ((hb6.block _ (row_lt HS5.out)).trans HS5.out)
  have HO6 := Lib.hid (HO5.out.below hb6)
  have HV6 := Lib.hid hb6
  clear hb6 hown
  go_wp2_with fail
  refine (eqStringS_same A1 A0 c1 c0 ss w6 (strs_ownX HO.out HMX.out) (HST.out.below HX6.out) (by omega)).mono ?_
  rintro e w7 ⟨rfl, hb7⟩
  have HX7 := Lib.hid (HX6.out.trans (hb7.mono HX6.out.size))
  have HS7 := Lib.hid ((hb7.block _ (row_lt HS6.out)).trans HS6.out)
  have HO7 := Lib.hid (HO6.out.below hb7)
  have HV7 := Lib.hid (HV6.out.trans (hb7.mono HV6.out.size))
  have HR7 := Lib.hid (own_belowX HO.out hb7)
  have HP7 := Lib.hid ((HX7.out.block _ (row_lt HP3.out)).trans HP3.out)
  have HB7 := Lib.hid (HB3.out.trans (HX7.out.mono HB3.out.size))
  clear hb7
  obtain ⟨a0, a1, a2, a3, a4, a5⟩ := cells6 HP7.out
  obtain ⟨s0, s1, s2, s3, s4, s5⟩ := cells6 HS7.out
  have HO7f : Hid (∀ V : World, Below w7.drew.heap.size w7.drew V → OwN V m n h5 bs5) := Lib.hid fun V hV => HO7.out.below ((Below.mk rfl rfl rfl (Nat.le_refl _) (fun _ _ => rfl) : Below w7.heap.size w7 w7.drew).trans hV)
  go_wp2_with fail
  go_region_with (first | (go_at_call 9; (with_reducible refine (HTA.out _ (by exact HB7.out.drew)).mono ?_); rintro e wa ⟨ha, bsa, rfl, hoa, hda, hga, hba⟩; have hxa := (hba.block _ (row_lt HS7.out)).trans HS7.out; obtain ⟨f0, f1, f2, f3, f4, f5⟩ := cells6 hxa) | (go_at_call 12; (with_reducible refine (HEN.out h5 ha _ _ _ (HO7f.out _ hba).nd hoa.nd).mono ?_); rintro e wb ⟨rfl, hbb⟩))
  all_goals
    have hb8 : Below w7.heap.size w7 wb := ((Below.mk rfl rfl rfl (Nat.le_refl _) (fun _ _ => rfl) : Below w7.heap.size w7 w7.drew).trans hba).trans (hbb.mono hba.size)
    clear hba hbb hoa hda hga hxa f0 f1 f2 f3 f4 f5 a0 a1 a2 a3 a4 a5 s0 s1 s2 s3 s4 s5
    have HX8 := Lib.hid (HX7.out.trans (hb8.mono HX7.out.size))
    have HS8 := Lib.hid ((hb8.block _ (row_lt HS7.out)).trans HS7.out)
    have HO8 := Lib.hid (HO7.out.below hb8)
    have HV8 := Lib.hid (HV7.out.trans (hb8.mono HV7.out.size))
    have HR8 := Lib.hid (own_belowX HR7.out hb8)
    clear hb8
    obtain ⟨s0, s1, s2, s3, s4, s5⟩ := cells6 HS8.out
    have HC := Lib.hid (HMN.out h5 bs5 wb HO8.out HD5.out.1)
    go_wp2_with fail
    refine HC.out.mono ?_
    rintro e w9 ⟨p5, i5, k1, k2, rfl, hk2, hpl, hil, hom, hh1, hh2, hoi⟩
    have hk0 : ¬ ((k2 : Int) < 0) := by omega
    have HX9 := Lib.hid (HX8.out.trans (hoi.below (B := w3.heap.size) HX8.out.size (fun b hb => (HD5.out.2 b hb).1)))
    have HR9 := Lib.hid (own_keepB (w' := w9) HR8.out (fun b hb => hoi.block b (HR8.out.lt b hb).2 (fun hm => by have h1 := (HD5.out.2 b hm).2; have h2 := (HR8.out.lt b hb).1; omega)))
    have HZ9 : Hid (V5.heap.size ≤ w9.heap.size) := Lib.hid (Nat.le_trans HV8.out.size hoi.size)
    clear HC hoi hom hh1 hh2 hpl hil hk2 s0 s1 s2 s3 s4 s5
    go_wp2_with fail
    refine (eqStringS_same A1 A0 c1 c0 ss w9 (strs_ownX HR9.out HMX.out) (HST.out.below HX9.out) (by omega)).mono ?_
    rintro e w10 ⟨rfl, hb10⟩
    clear hk0
    have HX10 := Lib.hid (HX9.out.trans (hb10.mono HX9.out.size))
    have HR10 := Lib.hid (own_belowX HR9.out hb10)
    have HZ10 : Hid (V5.heap.size ≤ w10.heap.size) := Lib.hid (Nat.le_trans HZ9.out hb10.size)
    clear hb10
    go_wp2_with fail
    refine (markStringS_any V5.heap.size _ ss.length 1 _ w10 (Marks.start ss 1) HR10.out HZ10.out (by omega) (by omega) (by omega)).mono ?_
    rintro e w11 ⟨rfl, ⟨ys, hM, hO11⟩, hb11⟩
    have HM := Lib.hid hM
    have HR11 := Lib.hid hO11
    have HX11 := Lib.hid (HX10.out.trans (hb11.mono HX5.out.size))
    clear hM hO11 hb11
    go_wp2_with fail
    refine (heldStringS_any V5.heap.size _ ss.length 1 ys w11 HM.out HR11.out (by omega) (by omega) (by omega)).mono ?_
    rintro e w12 ⟨rfl, hb12⟩
    have HR12 := Lib.hid (own_belowX HR11.out hb12)
    have HX12 := Lib.hid (HX11.out.trans (hb12.mono HX11.out.size))
    clear hb12
    obtain ⟨a0, a1, a2, a3, a4, a5⟩ := cells6 ((HX12.out.block _ (row_lt HP3.out)).trans HP3.out)
    go_wp2_with fail
    refine (HTA.out _ (HB3.out.trans (HX12.out.mono HB3.out.size))).mono ?_
    rintro e w13 ⟨h13, bs13, rfl, ho13, hd13, hg13, hb13⟩
    have HX13 := Lib.hid (HX12.out.trans (hb13.mono HX12.out.size))
    have HR13 := Lib.hid (own_belowX HR12.out hb13)
    have HC := Lib.hid (HIC.out w13 h13 _ ho13.nd)
    clear hb13 ho13 hd13 hg13 a0 a1 a2 a3 a4 a5
    go_wp2_with fail
    refine HC.out.mono ?_
    rintro e w14 ⟨A2, c2, rfl, hown2, hb14⟩
    clear HC
    have HO2 := Lib.hid hown2
    have HX14 := Lib.hid (HX13.out.trans (hb14.mono HX13.out.size))
    have HR14 := Lib.hid (own_belowX HR13.out hb14)
    clear hown2 hb14
    go_wp2_with fail
    refine (eqStringS_same A2 A0 c2 c0 ss w14 (strs_ownX HO2.out HMX.out) (HST.out.below HX14.out) (by omega)).mono ?_
    rintro e w15 ⟨rfl, hb15⟩
    have HR15 := Lib.hid (own_belowX HR14.out hb15)
    have HX15 := Lib.hid (HX14.out.trans (hb15.mono HX14.out.size))
    clear hb15
    go_wp2_with fail
    refine (heldStringS_any V5.heap.size _ ss.length 1 ys w15 HM.out HR15.out (by omega) (by omega) (by omega)).mono ?_
    rintro e w16 ⟨rfl, hb16⟩
    have HX16 := Lib.hid (HX15.out.trans (hb16.mono HX15.out.size))
    clear hb16
    go_wp2
    go_ret
    exact ⟨rfl, HB3.out.trans (HX16.out.mono HB3.out.size)⟩
end Go.Proofs.Ytbhmklbdfmgmlaa
