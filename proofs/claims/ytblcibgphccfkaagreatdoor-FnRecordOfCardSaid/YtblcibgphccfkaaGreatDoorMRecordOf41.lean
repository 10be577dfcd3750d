/- Texts of the proof of the law FnRecordOf, side by side: part 41. -/
import Derived.Test.YtblcibgphccfkaaGreatDoorRows
import Derived.Lib.LaidTab
import Derived.Stop.LaidErr
import Derived.MakeChecks
import Derived.Test.YtblcibgphccfkaaGreatDoorMRecordOf40
set_option maxHeartbeats 8000000
set_option maxRecDepth 100000
namespace Go.Proofs.YtblcibgphccfkaaGreatDoor
open Go.RowKit Go.Deep
theorem qnVal_s (m m' : Nat) (x : Int) (y : Nd) (h1 h2 : Hd) (w : World) (S S' : Nat → Prop) (a : NdAt w S m y h1) (b : NdAt w S' m' y h2) :
 Calls Tryz.prog 10 #[.agg #[.int .i64 x, .int .i64 y.kind, .string y.data, .slice h1.A y.ptrs.length h1.a, .int .i64 y.size, .int .i64 y.count, .slice h1.B y.items.length h1.b], .agg #[.int .i64 x, .int .i64 y.kind, .string y.data, .slice h2.A y.ptrs.length h2.a, .int .i64 y.size, .int .i64 y.count, .slice h2.B y.items.length h2.b]] w fun e w' => e = .returned (.bool true) ∧ Below w.heap.size w w' := by
 have q0 := al_first w (.cells #[.int .i64 x, .int .i64 y.kind, .string y.data, .slice h1.A y.ptrs.length h1.a, .int .i64 y.size, .int .i64 y.count, .slice h1.B y.items.length h1.b] valT)
 have q1 := al_next q0 (.cells #[.int .i64 x, .int .i64 y.kind, .string y.data, .slice h2.A y.ptrs.length h2.a, .int .i64 y.size, .int .i64 y.count, .slice h2.B y.items.length h2.b] valT)
 have r0 := heap_alloc_keep (heap_alloc_new w (.cells #[.int .i64 x, .int .i64 y.kind, .string y.data, .slice h1.A y.ptrs.length h1.a, .int .i64 y.size, .int .i64 y.count, .slice h1.B y.items.length h1.b] valT)) (.cells #[.int .i64 x, .int .i64 y.kind, .string y.data, .slice h2.A y.ptrs.length h2.a, .int .i64 y.size, .int .i64 y.count, .slice h2.B y.items.length h2.b] valT)
 have r1 := al_row q0 #[.int .i64 x, .int .i64 y.kind, .string y.data, .slice h2.A y.ptrs.length h2.a, .int .i64 y.size, .int .i64 y.count, .slice h2.B y.items.length h2.b] valT
 have HE := Lib.hid (fun (W : World) (hW : Below w.heap.size w W) => qnN_any m m' y y h1 h2 W S S' true (a.below hW) (b.below hW) ⟨fun _ => rfl, fun _ => rfl⟩)
 have HB0 := Lib.hid q1.2
 obtain ⟨a0, a1, a2, a3, a4, a5, a6⟩ := cellsV r0
 obtain ⟨b0, b1, b2, b3, b4, b5, b6⟩ := cellsV r1
 clear q1 q0 r0 r1 a b
 go_enter Tryz.func10, Tryz.ntmps10
 go_wp2_with fail
 refine (HE.out _ HB0.out).mono ?_
 rintro e w1 ⟨rfl, hb1⟩
 have HB1 := Lib.hid (HB0.out.trans (hb1.mono HB0.out.size))
 clear hb1 a0 a1 a2 a3 a4 a5 a6 b0 b1 b2 b3 b4 b5 b6
 go_wp2
 go_ret
 exact ⟨rfl, HB1.out⟩
theorem qnChoice_any (d p t : Int) (A : Option Addr) (n c : Nat) (ch : Int) (w : World) :
 Calls Tryz.prog 19 #[.agg #[.int .i64 d, .int .i64 p, .slice A n c, .int .i64 t], .int .i64 ch] w fun e w' => e = .returned (.int .i64 (if t < 0 then -1 else ch)) ∧ Below w.heap.size w w' := by
 have HB := Lib.hid ((Below.refl w.heap.size w).alloc (Nat.le_refl _) (.cells #[.int .i64 d, .int .i64 p, .slice A n c, .int .i64 t] 37))
 obtain ⟨l0, l1, l2, l3⟩ := cells4 (heap_alloc_new w (.cells #[.int .i64 d, .int .i64 p, .slice A n c, .int .i64 t] 37))
 by_cases ht : t < 0
 · rw [if_pos ht]
   go_enter Tryz.func19, Tryz.ntmps19
   go_wp2
   go_ret
   exact ⟨rfl, HB.out⟩
 · rw [if_neg ht]
   go_enter Tryz.func19, Tryz.ntmps19
   go_wp2
   go_ret
   exact ⟨rfl, HB.out⟩
theorem walkRecordOf (w : World) (a : Option Addr) (len cap : Nat) (h : Arg w a len cap) (ht : Tab w) :
 Calls Tryz.prog 4 #[.slice a len cap] w fun e w' => e = .returned (.bool true) ∧ Below w.heap.size w w' := by
 have h1w : 1 < w.heap.size := World.block_lt_of_cell? w _ ht.t0
 have hlm := h.1.1
 unfold maxLen at hlm
 by_cases hbig : 1048576 < len
 · clear ht h
   go_enter Tryz.func4, Tryz.ntmps4
   go_wp2
   go_ret
   exact ⟨rfl, Below.refl _ _⟩
 have HD := Lib.hid (drawRecordOf_any a len cap w h)
 have HIA := Lib.hid (fun (W : World) (hW : Below w.heap.size w W) (x : Addr) (c : Nat) (l : List Fld) (B : Option Addr) (cb : Nat) (vs : List Vl) (ch : Int) (hx : x.block < W.heap.size) (hf : Flds W (some x) l) (hll : l.length ≤ 10000000) (hc : l.length ≤ c) (hv : ValsAt W Any 4 B vs) (hvl : vs.length ≤ 10000000) (hsv : sumV vs ≤ 1900000) => implRecordOf_a x c l B cb vs ch 4 W (ht.below hW h1w) (by have := hW.size; omega) hx hf hll hc hv hvl hsv)
 have HSA := Lib.hid (fun (W : World) (hW : Below w.heap.size w W) (x : Addr) (c : Nat) (l : List Fld) (B : Option Addr) (cb : Nat) (vs : List Vl) (ch : Int) (hx : x.block < W.heap.size) (hf : Flds W (some x) l) (hll : l.length ≤ 10000000) (hc : l.length ≤ c) (hv : ValsAt W Any 4 B vs) (hvl : vs.length ≤ 10000000) (hsv : sumV vs ≤ 1900000) (hrg : ∀ k, -9223372036854775808 ≤ (vlK vs k).num ∧ (vlK vs k).num ≤ 9223372036854775807) => specRecordOf_a x c l B cb vs ch 4 W (by have := hW.size; omega) hx hf hll hv hvl hsv hc hrg)
 have HGA := Lib.hid (fun (W : World) (hW : Below w.heap.size w W) (A : Option Addr) (c : Nat) (l : List Fld) (m : Nat) (n : Nd) (g : Hd) (S : Nat → Prop) (i : Int) (hl : Flds W A l) (hll : l.length ≤ 10000000) (hc : l.length ≤ c) (hn : NdAt W S m n g) (htn : totN m n ≤ 2000000) => implRecordGet_a A c l m n g W S (ht.below hW h1w) (by have := hW.size; omega) hl hll hc hn htn i)
 have HCA := Lib.hid (fun (W : World) (hW : Below w.heap.size w W) (A : Option Addr) (c : Nat) (l : List Fld) (m : Nat) (n : Nd) (g : Hd) (S : Nat → Prop) (hl : Flds W A l) (hll : l.length ≤ 10000000) (hn : NdAt W S m n g) (htn : totN m n ≤ 2000000) => implRecordChoice_a A c l m n g W S (ht.below hW h1w) (by have := hW.size; omega) hl hll hn htn)
 have HLY := Lib.hid (fun (W : World) (hW : Below w.heap.size w W) (A : Option Addr) (c : Nat) (l : List Fld) (hl : Flds W A l) (hll : l.length ≤ 10000000) => implLayoutOf_any A c l W (ht.below hW h1w) (by have := hW.size; omega) hl hll)
 clear ht h h1w
 unfold DrawRO at HD
 unfold LayP layV at HLY
 go_enter Tryz.func4, Tryz.ntmps4
 go_wp2_with fail
 refine HD.out.mono ?_
 rintro e w1 ⟨X, c, l, A, cp, vs, ch, rfl, hl13, hlc, hX, hch, hfl, hvs, hvl, hsv, hrg, hb1⟩
 have HB := Lib.hid hb1
 have HF := Lib.hid hfl
 have HV := Lib.hid hvs
 have HX := Lib.hid hX
 have HLL : Hid (l.length ≤ 10000000 ∧ l.length ≤ c ∧ l.length ≤ 13) := Lib.hid ⟨by omega, hlc, hl13⟩
 have HVL : Hid (vs.length ≤ 14 ∧ sumV vs ≤ 100000) := Lib.hid ⟨hvl, hsv⟩
 have hYs := roN_sz (l := l) (vs := vs) (ch := ch) (by omega)
 have HSY := Lib.hid (fun (h : roB l vs ch = true) => ro_says h hrg)
 have HFO : Hid (roB l vs ch = true → fldsOk l = true ∧ vs.length = l.length) := Lib.hid fun h => by
  unfold roB at h
  simp only [Bool.and_eq_true, decide_eq_true_eq] at h
  exact ⟨h.1, h.2.1.1⟩
 have HIN := Lib.hid (fun (W : World) (hW : Below w.heap.size w W) (hx : X.block < W.heap.size) (hf : Flds W (some X) l) (hv : ValsAt W Any 4 A vs) => HIA.out W hW X c l A cp vs ch hx hf HLL.out.1 HLL.out.2.1 hv (by have := HVL.out; omega) (by have := HVL.out; omega))
 have HSN := Lib.hid (fun (W : World) (hW : Below w.heap.size w W) (hx : X.block < W.heap.size) (hf : Flds W (some X) l) (hv : ValsAt W Any 4 A vs) => HSA.out W hW X c l A cp vs ch hx hf HLL.out.1 HLL.out.2.1 hv (by have := HVL.out; omega) (by have := HVL.out; omega) hrg)
 obtain ⟨Y, hY⟩ : ∃ Y, roN l vs ch = Y := ⟨_, rfl⟩
 obtain ⟨ok, hok⟩ : ∃ ok, roB l vs ch = ok := ⟨_, rfl⟩
 rw [hY, hok] at HIN HSN HSY
 rw [hok] at HFO
 rw [hY] at hYs
 have HYS := Lib.hid hYs
 clear hY hok hYs hfl hvs hsv hrg hb1 hX hl13 hlc hvl
 unfold NewNb at HIN HSN
 go_wp2_with fail
 refine (HIN.out _ HB.out HX.out HF.out HV.out).mono ?_
 rintro e w2 ⟨h1, bs1, rfl, ho1, -, -, hb2⟩
 have hba : Below w2.heap.size w2 (w2.alloc (.cells #[.int .i64 Y.kind, .string Y.data, .slice h1.A Y.ptrs.length h1.a, .int .i64 Y.size, .int .i64 Y.count, .slice h1.B Y.items.length h1.b] nodeT)) := (Below.refl _ _).alloc (Nat.le_refl _) _
 have hbb : Below w1.heap.size w1 (w2.alloc (.cells #[.int .i64 Y.kind, .string Y.data, .slice h1.A Y.ptrs.length h1.a, .int .i64 Y.size, .int .i64 Y.count, .slice h1.B Y.items.length h1.b] nodeT)) := hb2.trans (hba.mono hb2.size)
 have HG := Lib.hid (heap_alloc_new w2 (.cells #[.int .i64 Y.kind, .string Y.data, .slice h1.A Y.ptrs.length h1.a, .int .i64 Y.size, .int .i64 Y.count, .slice h1.B Y.items.length h1.b] nodeT))
 have HO1 := Lib.hid (ho1.below hba)
 replace HX := Lib.hid (Nat.lt_of_lt_of_le HX.out hbb.size)
 replace HF := Lib.hid (HF.out.below hbb)
 replace HV := Lib.hid (HV.out.below hbb)
 replace HB := Lib.hid (HB.out.trans (hbb.mono HB.out.size))
 clear hba hbb ho1 hb2
 go_wp2_with fail
 generalize w2.alloc (.cells #[.int .i64 Y.kind, .string Y.data, .slice h1.A Y.ptrs.length h1.a, .int .i64 Y.size, .int .i64 Y.count, .slice h1.B Y.items.length h1.b] nodeT) = W2 at *
 generalize w2.heap.size = gb at *
 refine (HSN.out _ HB.out HX.out HF.out HV.out).mono ?_
 rintro e w3 ⟨h2, bs2, rfl, ho2, -, -, hb3⟩
 have hba : Below w3.heap.size w3 (w3.alloc (.cells #[.int .i64 Y.kind, .string Y.data, .slice h2.A Y.ptrs.length h2.a, .int .i64 Y.size, .int .i64 Y.count, .slice h2.B Y.items.length h2.b] nodeT)) := (Below.refl _ _).alloc (Nat.le_refl _) _
 have hbb : Below W2.heap.size W2 (w3.alloc (.cells #[.int .i64 Y.kind, .string Y.data, .slice h2.A Y.ptrs.length h2.a, .int .i64 Y.size, .int .i64 Y.count, .slice h2.B Y.items.length h2.b] nodeT)) := hb3.trans (hba.mono hb3.size)
 have HU := Lib.hid (heap_alloc_new w3 (.cells #[.int .i64 Y.kind, .string Y.data, .slice h2.A Y.ptrs.length h2.a, .int .i64 Y.size, .int .i64 Y.count, .slice h2.B Y.items.length h2.b] nodeT))
 have HO2 := Lib.hid (ho2.below hba)
 replace HX := Lib.hid (Nat.lt_of_lt_of_le HX.out hbb.size)
 replace HF := Lib.hid (HF.out.below hbb)
 replace HV := Lib.hid (HV.out.below hbb)
 replace HG := Lib.hid ((hbb.block _ (row_lt HG.out)).trans HG.out)
 replace HO1 := Lib.hid (HO1.out.below hbb)
 replace HB := Lib.hid (HB.out.trans (hbb.mono HB.out.size))
 clear hba hbb ho2 hb3
 have hdn : (ok != ok) = false := by simp
 have hdd : (ok == ok) = true := by simp
 obtain ⟨v0, v1, v2, v3, v4, v5⟩ := cells6 HG.out
 obtain ⟨u0, u1, u2, u3, u4, u5⟩ := cells6 HU.out
 go_wp2_with fail
 generalize w3.alloc (.cells #[.int .i64 Y.kind, .string Y.data, .slice h2.A Y.ptrs.length h2.a, .int .i64 Y.size, .int .i64 Y.count, .slice h2.B Y.items.length h2.b] nodeT) = W3 at *
 generalize w3.heap.size = ub at *
 refine (qnN_any (4 + 2) (4 + 2) Y Y h1 h2 _ _ _ true HO1.out.nd HO2.out.nd ⟨fun _ => rfl, fun _ => rfl⟩).mono ?_
 rintro e w4 ⟨rfl, hb4⟩
 clear v0 v1 v2 v3 v4 v5 u0 u1 u2 u3 u4 u5
 replace HX := Lib.hid (Nat.lt_of_lt_of_le HX.out hb4.size)
 replace HF := Lib.hid (HF.out.below hb4)
 replace HV := Lib.hid (HV.out.below hb4)
 replace HG := Lib.hid ((hb4.block _ (row_lt HG.out)).trans HG.out)
 replace HO1 := Lib.hid (HO1.out.below hb4)
 replace HU := Lib.hid ((hb4.block _ (row_lt HU.out)).trans HU.out)
 replace HO2 := Lib.hid (HO2.out.below hb4)
 replace HB := Lib.hid (HB.out.trans (hb4.mono HB.out.size))
 clear hb4
 cases ok
 · obtain ⟨v0, v1, v2, v3, v4, v5⟩ := cells6 HG.out
   obtain ⟨u0, u1, u2, u3, u4, u5⟩ := cells6 HU.out
   go_wp2_with fail
   refine (qnN_any (4 + 2) (4 + 2) Y Y h1 h2 _ _ _ true HO1.out.nd HO2.out.nd ⟨fun _ => rfl, fun _ => rfl⟩).mono ?_
   rintro e w6 ⟨rfl, hb6⟩
   replace HB := Lib.hid (HB.out.trans (hb6.mono HB.out.size))
   clear v0 v1 v2 v3 v4 v5 u0 u1 u2 u3 u4 u5 hb6
   go_wp2
   go_ret
   exact ⟨rfl, HB.out⟩
 have HS := Lib.hid (HSY.out rfl)
 obtain ⟨hfo, hvl⟩ := HFO.out rfl
 go_wp2_with fail
 clear HU HO2 HIN HSN hdn hdd HSY HFO
 refine (HLY.out _ HB.out (some X) c l HF.out HLL.out.1).mono ?_
 rintro e w7 (⟨-, vL, rfl, hown, hb7⟩ | ⟨hno, -, -⟩)
 rotate_left
 · rw [hfo] at hno; cases hno
 obtain ⟨AL, cL, rfl⟩ := own_slice3 hown
 have hba : Below w7.heap.size w7 (w7.alloc (.cells #[.int .i64 ((layF l ps0).2.ls.words : Int), .int .i64 ((layF l ps0).2.ptrs : Int), .slice AL l.length cL, .int .i64 (layF l ps0).2.tag] 37)) := (Below.refl _ _).alloc (Nat.le_refl _) _
 have hbb : Below w4.heap.size w4 (w7.alloc (.cells #[.int .i64 ((layF l ps0).2.ls.words : Int), .int .i64 ((layF l ps0).2.ptrs : Int), .slice AL l.length cL, .int .i64 (layF l ps0).2.tag] 37)) := hb7.trans (hba.mono hb7.size)
 have HL := Lib.hid (heap_alloc_new w7 (.cells #[.int .i64 ((layF l ps0).2.ls.words : Int), .int .i64 ((layF l ps0).2.ptrs : Int), .slice AL l.length cL, .int .i64 (layF l ps0).2.tag] 37))
 replace HX := Lib.hid (Nat.lt_of_lt_of_le HX.out hbb.size)
 replace HF := Lib.hid (HF.out.below hbb)
 replace HV := Lib.hid (HV.out.below hbb)
 replace HG := Lib.hid ((hbb.block _ (row_lt HG.out)).trans HG.out)
 replace HO1 := Lib.hid (HO1.out.below hbb)
 replace HB := Lib.hid (HB.out.trans (hbb.mono HB.out.size))
 clear hba hbb hown hb7
 go_wp2_with fail
 generalize w7.alloc (.cells #[.int .i64 ((layF l ps0).2.ls.words : Int), .int .i64 ((layF l ps0).2.ptrs : Int), .slice AL l.length cL, .int .i64 (layF l ps0).2.tag] 37) = W7 at *
 generalize w7.heap.size = lb at *
 go_loopw [12, 13] (fun s i wr => ∃ k : Nat, i = .int .i64 (k : Int) ∧ s = .int .i64 (plcN l k : Int) ∧ k ≤ l.length ∧ Hid (Below W7.heap.size W7 wr)) (fun _ i _ => l.length - (intOf i).toNat)
 case atStart => exact ⟨0, rfl, rfl, by omega, Lib.hid (Below.refl _ _)⟩
 case round =>
  obtain ⟨k, rfl, rfl, hk, HBk⟩ := hrel
  have hl13 := HLL.out.2.2
  by_cases hlt : k < l.length
  · have hrow := (HBk.out.block _ (row_lt HG.out)).trans HG.out
    obtain ⟨n0, n1, n2, n3, n4, n5⟩ := cells6 hrow
    have hlt2 : (k : Int) < (l.length : Int) := by omega
    have hkv : k < vs.length := by omega
    have hfk := fldK_at hlt
    have hpl := plc_succ hlt
    have hpm := plc_le l (k + 1)
    obtain ⟨z, fc, el, hlk⟩ : ∃ z fc el, l[k] = Fld.mk z fc el := ⟨_, _, _, rfl⟩
    rw [hlk] at hfk hpl
    dsimp only at hpl
    have hwp : IntKind.i64.wrap ((plcN l k : Int) + 1) = (plcN l k : Int) + 1 := by rw [IntKind.wrap_i64]; omega
    have HIG := Lib.hid (fun (W : World) (hW : Below w.heap.size w W) (hf : Flds W (some X) l) (hn : NdAt W Any (4 + 2) Y h1) => HGA.out W hW (some X) c l (4 + 2) Y h1 Any (k : Int) hf HLL.out.1 HLL.out.2.1 hn (by rw [totN_siz hn]; exact HYS.out))
    have hth := HS.out.there k hlt
    unfold NewVal at HIG
    clear hrow
    cases hp : pickB l k ch
    · rw [hp] at hth
      rw [hth] at HIG
      have hpc : fc = true ∧ ¬ ((plcN l k : Int) = ch) := by
       unfold pickB at hp
       rw [hfk] at hp
       simpa using hp
      obtain ⟨rfl, hne⟩ := hpc
      have hneb : ((plcN l k : Int) == ch) = false := by simpa using hne
      obtain ⟨x3, hx3⟩ : ∃ x3, rgN l Y (k : Int) = x3 := ⟨_, rfl⟩
      obtain ⟨y3, hy3⟩ : ∃ y3, rgY l Y (k : Int) = y3 := ⟨_, rfl⟩
      rw [hx3, hy3] at HIG
      clear hx3 hy3 hp hth hne
      go_wp2_with fail
      refine (HIG.out wr (HB.out.trans (HBk.out.mono HB.out.size)) (HF.out.below HBk.out) ((HO1.out.nd.weak (fun _ _ => trivial)).below HBk.out)).mono ?_
      rintro e w8 ⟨h3, bs3, rfl, ho3, -, -, hb8⟩
      clear n0 n1 n2 n3 n4 n5
      have hba : Below w8.heap.size w8 (w8.alloc (.cells #[.int .i64 x3, .int .i64 y3.kind, .string y3.data, .slice h3.A y3.ptrs.length h3.a, .int .i64 y3.size, .int .i64 y3.count, .slice h3.B y3.items.length h3.b] valT)) := (Below.refl _ _).alloc (Nat.le_refl _) _
      have hbb : Below wr.heap.size wr (w8.alloc (.cells #[.int .i64 x3, .int .i64 y3.kind, .string y3.data, .slice h3.A y3.ptrs.length h3.a, .int .i64 y3.size, .int .i64 y3.count, .slice h3.B y3.items.length h3.b] valT)) := hb8.trans (hba.mono hb8.size)
      have HV3 := Lib.hid (heap_alloc_new w8 (.cells #[.int .i64 x3, .int .i64 y3.kind, .string y3.data, .slice h3.A y3.ptrs.length h3.a, .int .i64 y3.size, .int .i64 y3.count, .slice h3.B y3.items.length h3.b] valT))
      have HO3 := Lib.hid (ho3.below hba)
      have HBk2 : Hid (Below W7.heap.size W7 (w8.alloc (.cells #[.int .i64 x3, .int .i64 y3.kind, .string y3.data, .slice h3.A y3.ptrs.length h3.a, .int .i64 y3.size, .int .i64 y3.count, .slice h3.B y3.items.length h3.b] valT))) := Lib.hid (HBk.out.trans (hbb.mono HBk.out.size))
      clear hba hbb ho3 hb8
      obtain ⟨xa, hxa0, hxb, hxa⟩ := (HF.out.below HBk2.out).at2 hlt
      obtain rfl := Option.some.inj hxa0
      rw [hlk] at hxa
      obtain ⟨c0, c1, c2⟩ := hxa
      obtain ⟨v0, v1, v2, v3, v4, v5, v6⟩ := cellsV HV3.out
      go_wp2_with fail
      generalize w8.alloc (.cells #[.int .i64 x3, .int .i64 y3.kind, .string y3.data, .slice h3.A y3.ptrs.length h3.a, .int .i64 y3.size, .int .i64 y3.count, .slice h3.B y3.items.length h3.b] valT) = W8 at *
      generalize w8.heap.size = vb at *
      go_quiet (fail)
      go_wp2
      go_roundw
      case rel => exact ⟨k + 1, by go_num, by rw [hpl]; rfl, by omega, Lib.hid ⟨HBk2.out.os, HBk2.out.tape, HBk2.out.output, HBk2.out.size, HBk2.out.block⟩⟩
      case measure => simp [intOf]; omega
    · rw [hp] at hth
      obtain ⟨n9, d9, hd9⟩ : ∃ n9 d9, vs[k] = Vl.mk n9 d9 := ⟨_, _, rfl⟩
      have hnum := HS.out.num k hlt hp
      have hnod := HS.out.nod k hlt hp
      rw [vlK_at hkv, hd9] at hnum hnod
      rw [hth, hnum, hnod] at HIG
      have hpc : fc = true → (plcN l k : Int) = ch := fun h => by
       unfold pickB at hp
       rw [hfk, h] at hp
       simpa using hp
      clear hp hth hnum hnod
      cases fc
      · clear hpc
        go_wp2_with fail
        refine (HIG.out wr (HB.out.trans (HBk.out.mono HB.out.size)) (HF.out.below HBk.out) ((HO1.out.nd.weak (fun _ _ => trivial)).below HBk.out)).mono ?_
        rintro e w8 ⟨h3, bs3, rfl, ho3, -, -, hb8⟩
        clear n0 n1 n2 n3 n4 n5
        have hba : Below w8.heap.size w8 (w8.alloc (.cells #[.int .i64 n9, .int .i64 d9.kind, .string d9.data, .slice h3.A d9.ptrs.length h3.a, .int .i64 d9.size, .int .i64 d9.count, .slice h3.B d9.items.length h3.b] valT)) := (Below.refl _ _).alloc (Nat.le_refl _) _
        have hbb : Below wr.heap.size wr (w8.alloc (.cells #[.int .i64 n9, .int .i64 d9.kind, .string d9.data, .slice h3.A d9.ptrs.length h3.a, .int .i64 d9.size, .int .i64 d9.count, .slice h3.B d9.items.length h3.b] valT)) := hb8.trans (hba.mono hb8.size)
        have HV3 := Lib.hid (heap_alloc_new w8 (.cells #[.int .i64 n9, .int .i64 d9.kind, .string d9.data, .slice h3.A d9.ptrs.length h3.a, .int .i64 d9.size, .int .i64 d9.count, .slice h3.B d9.items.length h3.b] valT))
        have HO3 := Lib.hid (ho3.below hba)
        have HBk2 : Hid (Below W7.heap.size W7 (w8.alloc (.cells #[.int .i64 n9, .int .i64 d9.kind, .string d9.data, .slice h3.A d9.ptrs.length h3.a, .int .i64 d9.size, .int .i64 d9.count, .slice h3.B d9.items.length h3.b] valT))) := Lib.hid (HBk.out.trans (hbb.mono HBk.out.size))
        clear hba hbb ho3 hb8
        obtain ⟨xa, hxa0, hxb, hxa⟩ := (HF.out.below HBk2.out).at2 hlt
        obtain rfl := Option.some.inj hxa0
        rw [hlk] at hxa
        obtain ⟨c0, c1, c2⟩ := hxa
        obtain ⟨v0, v1, v2, v3, v4, v5, v6⟩ := cellsV HV3.out
        go_wp2
        generalize w8.alloc (.cells #[.int .i64 n9, .int .i64 d9.kind, .string d9.data, .slice h3.A d9.ptrs.length h3.a, .int .i64 d9.size, .int .i64 d9.count, .slice h3.B d9.items.length h3.b] valT) = W8 at *
        generalize w8.heap.size = vb at *
        obtain ⟨yv, hv, hAv, hyb, hva⟩ := (HV.out.below HBk2.out).at_ hkv
        subst hAv
        rw [hd9] at hva
        have HND := Lib.hid hva.nd
        obtain ⟨d0, d1, d2, d3, d4, d5, d6⟩ := hva.cells
        have hkv2 : (k : Int) < (vs.length : Int) := by omega
        clear hva
        have e0 := cell_regrown v0
        have e1 := cell_regrown v1
        have e2 := cell_regrown v2
        have e3 := cell_regrown v3
        have e4 := cell_regrown v4
        have e5 := cell_regrown v5
        have e6 := cell_regrown v6
        have f0 := cell_regrown d0
        have f1 := cell_regrown d1
        have f2 := cell_regrown d2
        have f3 := cell_regrown d3
        have f4 := cell_regrown d4
        have f5 := cell_regrown d5
        have f6 := cell_regrown d6
        have hwx : ∀ d os, Below W8.heap.size W8 («Sort».grow (redrawn W8 d) os) := fun d os => below_regrown W8 d os
        have HQV := Lib.hid (fun (W : World) (hW : Below W8.heap.size W8 W) => qnVal_s (4 + 2 + 1) 4 n9 d9 h3 hv W _ _ (HO3.out.nd.below hW) (HND.out.below hW))
        clear v0 v1 v2 v3 v4 v5 v6 d0 d1 d2 d3 d4 d5 d6 c0 c1 c2
        refine wp_region_quiet_below (by kernel_rfl) (by kernel_rfl) ?_
        repeat (first | go_big_quiet_step (first | (go_at_call 10; exact Calls.regrown_of (HQV.out _ (hwx _ _)))) | quiet_step (first | (go_at_call 10; exact Calls.regrown_of (HQV.out _ (hwx _ _)))))
        refine wpQuiet_nil ?_
        intro _ hw'
        obtain ⟨⟨dq, osq⟩, hw''⟩ := hw'
        subst hw''
        have HFIN := Lib.hid (hwx dq osq)
        clear hwx e0 e1 e2 e3 e4 e5 e6 f0 f1 f2 f3 f4 f5 f6
        generalize «Sort».grow (redrawn W8 dq) osq = W9 at HFIN ⊢
        go_wp2
        go_roundw
        case rel => exact ⟨k + 1, by go_num, by rw [hpl]; rfl, by omega, Lib.hid (HBk2.out.trans (HFIN.out.mono HBk2.out.size))⟩
        case measure => simp [intOf]; omega
      · have hneb : ((plcN l k : Int) == ch) = true := by simpa using hpc rfl
        clear hpc
        go_wp2_with fail
        refine (HIG.out wr (HB.out.trans (HBk.out.mono HB.out.size)) (HF.out.below HBk.out) ((HO1.out.nd.weak (fun _ _ => trivial)).below HBk.out)).mono ?_
        rintro e w8 ⟨h3, bs3, rfl, ho3, -, -, hb8⟩
        clear n0 n1 n2 n3 n4 n5
        have hba : Below w8.heap.size w8 (w8.alloc (.cells #[.int .i64 n9, .int .i64 d9.kind, .string d9.data, .slice h3.A d9.ptrs.length h3.a, .int .i64 d9.size, .int .i64 d9.count, .slice h3.B d9.items.length h3.b] valT)) := (Below.refl _ _).alloc (Nat.le_refl _) _
        have hbb : Below wr.heap.size wr (w8.alloc (.cells #[.int .i64 n9, .int .i64 d9.kind, .string d9.data, .slice h3.A d9.ptrs.length h3.a, .int .i64 d9.size, .int .i64 d9.count, .slice h3.B d9.items.length h3.b] valT)) := hb8.trans (hba.mono hb8.size)
        have HV3 := Lib.hid (heap_alloc_new w8 (.cells #[.int .i64 n9, .int .i64 d9.kind, .string d9.data, .slice h3.A d9.ptrs.length h3.a, .int .i64 d9.size, .int .i64 d9.count, .slice h3.B d9.items.length h3.b] valT))
        have HO3 := Lib.hid (ho3.below hba)
        have HBk2 : Hid (Below W7.heap.size W7 (w8.alloc (.cells #[.int .i64 n9, .int .i64 d9.kind, .string d9.data, .slice h3.A d9.ptrs.length h3.a, .int .i64 d9.size, .int .i64 d9.count, .slice h3.B d9.items.length h3.b] valT))) := Lib.hid (HBk.out.trans (hbb.mono HBk.out.size))
        clear hba hbb ho3 hb8
        obtain ⟨xa, hxa0, hxb, hxa⟩ := (HF.out.below HBk2.out).at2 hlt
        obtain rfl := Option.some.inj hxa0
        rw [hlk] at hxa
        obtain ⟨c0, c1, c2⟩ := hxa
        obtain ⟨v0, v1, v2, v3, v4, v5, v6⟩ := cellsV HV3.out
        go_wp2
        generalize w8.alloc (.cells #[.int .i64 n9, .int .i64 d9.kind, .string d9.data, .slice h3.A d9.ptrs.length h3.a, .int .i64 d9.size, .int .i64 d9.count, .slice h3.B d9.items.length h3.b] valT) = W8 at *
        generalize w8.heap.size = vb at *
        obtain ⟨yv, hv, hAv, hyb, hva⟩ := (HV.out.below HBk2.out).at_ hkv
        subst hAv
        rw [hd9] at hva
        have HND := Lib.hid hva.nd
        obtain ⟨d0, d1, d2, d3, d4, d5, d6⟩ := hva.cells
        have hkv2 : (k : Int) < (vs.length : Int) := by omega
        clear hva
        have e0 := cell_regrown v0
        have e1 := cell_regrown v1
        have e2 := cell_regrown v2
        have e3 := cell_regrown v3
        have e4 := cell_regrown v4
        have e5 := cell_regrown v5
        have e6 := cell_regrown v6
        have f0 := cell_regrown d0
        have f1 := cell_regrown d1
        have f2 := cell_regrown d2
        have f3 := cell_regrown d3
        have f4 := cell_regrown d4
        have f5 := cell_regrown d5
        have f6 := cell_regrown d6
        have hwx : ∀ d os, Below W8.heap.size W8 («Sort».grow (redrawn W8 d) os) := fun d os => below_regrown W8 d os
        have HQV := Lib.hid (fun (W : World) (hW : Below W8.heap.size W8 W) => qnVal_s (4 + 2 + 1) 4 n9 d9 h3 hv W _ _ (HO3.out.nd.below hW) (HND.out.below hW))
        clear v0 v1 v2 v3 v4 v5 v6 d0 d1 d2 d3 d4 d5 d6 c0 c1 c2
        refine wp_region_quiet_below (by kernel_rfl) (by kernel_rfl) ?_
        repeat (first | go_big_quiet_step (first | (go_at_call 10; exact Calls.regrown_of (HQV.out _ (hwx _ _)))) | quiet_step (first | (go_at_call 10; exact Calls.regrown_of (HQV.out _ (hwx _ _)))))
        refine wpQuiet_nil ?_
        intro _ hw'
        obtain ⟨⟨dq, osq⟩, hw''⟩ := hw'
        subst hw''
        have HFIN := Lib.hid (hwx dq osq)
        clear hwx e0 e1 e2 e3 e4 e5 e6 f0 f1 f2 f3 f4 f5 f6
        generalize «Sort».grow (redrawn W8 dq) osq = W9 at HFIN ⊢
        go_wp2
        go_roundw
        case rel => exact ⟨k + 1, by go_num, by rw [hpl]; rfl, by omega, Lib.hid (HBk2.out.trans (HFIN.out.mono HBk2.out.size))⟩
        case measure => simp [intOf]; omega
  · obtain rfl : k = l.length := by omega
    have hrow := (HBk.out.block _ (row_lt HG.out)).trans HG.out
    have hrl := (HBk.out.block _ (row_lt HL.out)).trans HL.out
    obtain ⟨n0, n1, n2, n3, n4, n5⟩ := cells6 hrow
    obtain ⟨L0, L1, L2, L3⟩ := cells4 hrl
    have hsml := lay_small l
    have hdat := HS.out.data
    have hptr := HS.out.ptrs
    have hdb : ((Y.data.size : Int) == 8 * ((layF l ps0).2.ls.words : Int)) = true := by rw [hdat]; simp
    have hpb : ((Y.ptrs.length : Int) == ((layF l ps0).2.ptrs : Int)) = true := by rw [hptr]; simp
    have hcb : (choN l Y == (if (layF l ps0).2.tag < 0 then -1 else ch)) = true := by
     have := HS.out.cho
     unfold tagL at this
     rw [this]
     simp
    have hwm : IntKind.i64.wrap (8 * ((layF l ps0).2.ls.words : Int)) = 8 * ((layF l ps0).2.ls.words : Int) := by rw [IntKind.wrap_i64]; omega
    have HNO := Lib.hid (fun (W : World) (hW : Below wr.heap.size wr W) => by
     have := implNodeOk_a (4 + 2) Y h1 W Any (((HO1.out.nd.weak (fun _ _ => trivial)).below HBk.out).below hW) (by rw [totN_siz HO1.out.nd]; exact HYS.out)
     rw [HS.out.ok] at this
     exact this)
    have HRC := Lib.hid (fun (W : World) (hW : Below wr.heap.size wr W) => HCA.out W (HB.out.trans ((HBk.out.trans (hW.mono HBk.out.size)).mono HB.out.size)) (some X) c l (4 + 2) Y h1 Any ((HF.out.below HBk.out).below hW) HLL.out.1 (((HO1.out.nd.weak (fun _ _ => trivial)).below HBk.out).below hW) (by rw [totN_siz HO1.out.nd]; exact HYS.out))
    have HQC := Lib.hid (fun (W : World) => qnChoice_any ((layF l ps0).2.ls.words : Int) ((layF l ps0).2.ptrs : Int) (layF l ps0).2.tag AL l.length cL ch W)
    clear hdat hptr hvl
    obtain ⟨qc, hqc⟩ : ∃ qc, (if (layF l ps0).2.tag < 0 then -1 else ch) = qc := ⟨_, rfl⟩
    rw [hqc] at hcb HQC
    clear hqc
    have q0 := cell_regrown n0
    have q1 := cell_regrown n1
    have q2 := cell_regrown n2
    have q3 := cell_regrown n3
    have q4 := cell_regrown n4
    have q5 := cell_regrown n5
    have r0 := cell_regrown L0
    have r1 := cell_regrown L1
    have r2 := cell_regrown L2
    have r3 := cell_regrown L3
    have hwx : ∀ d os, Below wr.heap.size wr («Sort».grow (redrawn wr d) os) := fun d os => below_regrown wr d os
    clear n0 n1 n2 n3 n4 n5 L0 L1 L2 L3 hrow hrl
    go_wp2
    refine wp_region_quiet_below (by kernel_rfl) (by kernel_rfl) ?_
    repeat (first | go_big_quiet_step (first | (go_at_call 17; exact Calls.regrown_of (HNO.out _ (hwx _ _))) | (go_at_call 18; exact Calls.regrown_of (HRC.out _ (hwx _ _))) | (go_at_call 19; exact Calls.regrown_of (HQC.out _))) | quiet_step (first | (go_at_call 17; exact Calls.regrown_of (HNO.out _ (hwx _ _))) | (go_at_call 18; exact Calls.regrown_of (HRC.out _ (hwx _ _))) | (go_at_call 19; exact Calls.regrown_of (HQC.out _))))
    refine wpQuiet_nil ?_
    intro _ hw'
    obtain ⟨⟨dq, osq⟩, hw''⟩ := hw'
    subst hw''
    have HFIN := Lib.hid (hwx dq osq)
    clear hwx q0 q1 q2 q3 q4 q5 r0 r1 r2 r3
    generalize «Sort».grow (redrawn wr dq) osq = W9 at HFIN ⊢
    go_wp2
    go_ret
    exact ⟨rfl, HB.out.trans ((HBk.out.trans (HFIN.out.mono HBk.out.size)).mono HB.out.size)⟩
end Go.Proofs.YtblcibgphccfkaaGreatDoor
namespace Go.Proofs.YtblcibgphccfkaaGreatDoor
open Go.RowKit
def tab64 : List Int := [0, 1, 56, 2, 57, 49, 28, 3, 61, 58, 42, 50, 38, 29, 17, 4, 62, 47, 59, 36, 45, 43, 51, 22, 53, 39, 33, 30, 24, 18, 12, 5, 63, 55, 48, 27, 60, 41, 37, 16, 46, 35, 44, 21, 52, 32, 23, 11, 54, 26, 40, 15, 34, 20, 31, 10, 25, 14, 19, 9, 13, 8, 7, 6]
theorem tab64_eq : (Rows.laid_math_bits_deBruijn64tab (H := Unit)) = Lib.tabData .u8 tab64 := by rfl
theorem tab_of {W : World} (h : laidMetH Tryz.prog [("math/bits.deBruijn32tab", Rows.laid_math_bits_deBruijn32tab), ("math/bits.deBruijn64tab", Rows.laid_math_bits_deBruijn64tab)] W) : Tab W := by
 rw [MakeChecks.laidMetH_plain _ _ _ (by kernel_rfl)] at h
 have h1 := laidMet.tail h
 rw [tab64_eq] at h1
 have hT := Lib.tabIs_of_head (g := 1) (t := 189) (e := 5) (n := 64) (by kernel_rfl) (by kernel_rfl) Tryz.underlying189 Tryz.underlying5 (by kernel_rfl) (by kernel_rfl) h1
 have hg : Tryz.prog.globalNamed "math/bits.deBruijn64tab" = some 1 := by kernel_rfl
 exact ⟨hT.cell hg 0 (by decide), hT.cell hg 7 (by decide), hT.cell hg 15 (by decide), hT.cell hg 31 (by decide), hT.cell hg 63 (by decide)⟩
end Go.Proofs.YtblcibgphccfkaaGreatDoor
