/- Texts of the proof of the law FnReadTwo, side by side: part 14. -/
import Derived.Stop.BytesEq
import Derived.Test.YtlbfffokkhccaaaGreatDoorMReadTwo13
namespace Go.Proofs.YtlbfffokkhccaaaGreatDoor
open Go.RowKit
def wv (a b c d e f g i : UInt8) : Value := .agg #[.int .u8 a.toNat, .int .u8 b.toNat, .int .u8 c.toNat, .int .u8 d.toNat, .int .u8 e.toNat, .int .u8 f.toNat, .int .u8 g.toNat, .int .u8 i.toNat]
def zer8 (a b c d e f g i : UInt8) : Bool := [a, b, c, d, e, f, g, i] == [0, 0, 0, 0, 0, 0, 0, 0]
theorem eql_word (a b c d e f g i : UInt8) (w : World) :
 (binOp .eql 87 (.agg #[.int .u8 a.toNat, .int .u8 b.toNat, .int .u8 c.toNat, .int .u8 d.toNat, .int .u8 e.toNat, .int .u8 f.toNat, .int .u8 g.toNat, .int .u8 i.toNat]) (.agg #[.int .u8 0, .int .u8 0, .int .u8 0, .int .u8 0, .int .u8 0, .int .u8 0, .int .u8 0, .int .u8 0])).run Tryz.prog w = .ok (.bool (zer8 a b c d e f g i)) w :=
 run_eql_bytes w 87 5 8 Tryz.underlying87 Tryz.underlying5 (fun w => by kernel_rfl) [a, b, c, d, e, f, g, i] [0, 0, 0, 0, 0, 0, 0, 0] rfl rfl
theorem guard_word (op : BinOp) (x y : Operand) (xs ys : Array Value) (w : World) : (eqGuard op 87 x y (.agg xs) (.agg ys)).run Tryz.prog w = .ok () w := run_eqGuard_agg w _ _ _ _ _ _ (by kernel_rfl)
theorem zer8_eq (a b c d e f g i : UInt8) : zer8 a b c d e f g i = decide (leN [a, b, c, d, e, f, g, i] 0 4 = 0 ∧ leN [a, b, c, d, e, f, g, i] 4 4 = 0) := by
 have h1 : leN [a, b, c, d, e, f, g, i] 0 4 = a.toNat + 256 * (b.toNat + 256 * (c.toNat + 256 * (d.toNat + 256 * 0))) := rfl
 have h2 : leN [a, b, c, d, e, f, g, i] 4 4 = e.toNat + 256 * (f.toNat + 256 * (g.toNat + 256 * (i.toNat + 256 * 0))) := rfl
 rw [h1, h2, zer8, Bool.eq_iff_iff]
 simp [← UInt8.toNat_inj]
 omega
theorem w64_ok (n : Int) (h : 0 ≤ n ∧ n < 4294967296) : IntKind.i64.wrap n = n ∧ wrap64 n = n := by
 constructor
 · rw [IntKind.wrap_i64]; omega
 · unfold wrap64; omega
def ptI (x : Int × Int × Int × Int × Int × Int × Int × Bool) : Value := ptif x.1 x.2.1 x.2.2.1 x.2.2.2.1 x.2.2.2.2.1 x.2.2.2.2.2.1 x.2.2.2.2.2.2.1 x.2.2.2.2.2.2.2
set_option maxHeartbeats 2000000 in
set_option maxRecDepth 100000 in
theorem readPointer_any (a b c d e f g i : UInt8) (w : World) :
 Calls Tryz.prog 61 #[wv a b c d e f g i] w fun e' w' => e' = .returned (ptI (getP (leN [a, b, c, d, e, f, g, i] 0 4) (leN [a, b, c, d, e, f, g, i] 4 4))) ∧ Below w.heap.size w w' := by
 have hl := leN_lt [a, b, c, d, e, f, g, i] 4 0
 have hh := leN_lt [a, b, c, d, e, f, g, i] 4 4
 have hL : ∀ (n : Int) (w : World), (n = 0 ∨ n = 4) → Calls Tryz.prog 108 #[wv a b c d e f g i, .int .i64 n, .int .i64 4] w fun e' w' => e' = .returned (.int .u64 (leI [a, b, c, d, e, f, g, i] n)) ∧ Below w.heap.size w w' :=
  fun n w hn => number_any [a, b, c, d, e, f, g, i] n 4 w rfl (by omega) (by decide) (by omega)
 have e0 : leI [a, b, c, d, e, f, g, i] 0 = ((leN [a, b, c, d, e, f, g, i] 0 4 : Nat) : Int) := rfl
 have e4 : leI [a, b, c, d, e, f, g, i] 4 = ((leN [a, b, c, d, e, f, g, i] 4 4 : Nat) : Int) := rfl
 have hz := zer8_eq a b c d e f g i
 generalize leN [a, b, c, d, e, f, g, i] 0 4 = lo at *
 generalize leN [a, b, c, d, e, f, g, i] 4 4 = hi at *
 generalize leI [a, b, c, d, e, f, g, i] = LE at *
 have he := eql_word a b c d e f g i
 have hg0 := fun op x y w => guard_word op x y #[.int .u8 a.toNat, .int .u8 b.toNat, .int .u8 c.toNat, .int .u8 d.toNat, .int .u8 e.toNat, .int .u8 f.toNat, .int .u8 g.toNat, .int .u8 i.toNat] #[.int .u8 0, .int .u8 0, .int .u8 0, .int .u8 0, .int .u8 0, .int .u8 0, .int .u8 0, .int .u8 0] w
 generalize zer8 a b c d e f g i = z at *
 have HL := Lib.hid hL
 have HZ := Lib.hid hz
 clear hL hz
 have hlo : lo < 4294967296 := hl
 have hhi : hi < 4294967296 := hh
 clear hl hh
 have c0 : lo % 4 = 0 ∨ lo % 4 = 1 ∨ lo % 4 = 2 ∨ lo % 4 = 3 := by omega
 have c4 : lo / 4 % 2 = 0 ∨ lo / 4 % 2 = 1 := by omega
 have U0 := Lib.hid (w64_ok ((hi : Int) % 65536) (by omega)).1
 have U1 := Lib.hid (w64_ok ((hi : Int) / 65536) (by omega)).1
 have U2 := Lib.hid (w64_ok ((hi : Int) % 8) (by omega)).1
 have U3 := Lib.hid (w64_ok ((hi : Int) / 8) (by omega)).1
 have U4 := Lib.hid (w64_ok ((lo : Int) / 8) (by omega)).1
 have U5 := Lib.hid (w64_ok (hi : Int) (by omega)).1
 have cu : IntKind.u32.wrap (lo : Int) = lo := by rw [IntKind.wrap_u32]; omega
 have ch : IntKind.u32.wrap (hi : Int) = hi := by rw [IntKind.wrap_u32]; omega
 have hm : ∃ m : Int, IntKind.i32.wrap (lo : Int) = m ∧ m / 4 = sgn lo ∧ IntKind.i64.wrap (sgn lo) = sgn lo := by
  refine ⟨_, rfl, ?_, ?_⟩
  · rw [IntKind.wrap_i32]; unfold sgn; split <;> omega
  · rw [IntKind.wrap_i64]; unfold sgn; split <;> omega
 obtain ⟨m, m1, m3, m4⟩ := hm
 have a3 := and3_32 lo hlo
 have z3 : bits .and .u32 0 3 = 0 := by decide
 unfold wv at HL ⊢
 by_cases h0 : lo = 0
 · have e0' : LE 0 = 0 := by rw [e0, h0]; rfl
   have cu0 : IntKind.u32.wrap 0 = 0 := by decide
   have ci0 : IntKind.i32.wrap 0 = 0 := by decide
   clear e0 a3 cu m1 m3 m4 c0 c4
   by_cases h1 : hi = 0
   · have e4' : LE 4 = 0 := by rw [e4, h1]; rfl
     have hz : z = true := by rw [HZ.out]; simp [h0, h1]
     subst hz
     clear e4 ch
     have hg : getP lo hi = (0, 0, 0, 0, 0, 0, 0, false) := by simp [getP, h0, h1]
     have HG := Lib.hid hg
     clear hg
     clear h0 h1
     go_enter Tryz.func61, Tryz.ntmps61
     go_wp2
     have hblk := heap_alloc_new w (.cells #[.int .u8 a.toNat, .int .u8 b.toNat, .int .u8 c.toNat, .int .u8 d.toNat, .int .u8 e.toNat, .int .u8 f.toNat, .int .u8 g.toNat, .int .u8 i.toNat] 87 (0, 0))
     obtain ⟨q0, q1, q2, q3, q4, q5, q6, q7⟩ := cells8 hblk
     have HK := Lib.hid hblk
     clear hblk
     go_region_law (first | (go_simp; go_at_call 108; have hx := hb2; refine (HL.out _ _ (by decide)).mono ?_; rintro e' w3 ⟨rfl, hb3⟩) | (go_simp; go_at_call 108; refine (HL.out _ _ (by decide)).mono ?_; rintro e' w2 ⟨rfl, hb2⟩; have hk2 := kept8 (w := (w.alloc _).drew) HK.out hb2; obtain ⟨f0, f1, f2, f3, f4, f5, f6, f7⟩ := cells8 hk2; clear hk2))
     all_goals
      have hk3 := kept8 (kept8 (w := (w.alloc _).drew) HK.out hb2) hb3
      obtain ⟨r0, r1, r2, r3, r4, r5, r6, r7⟩ := cells8 hk3
      have HB1 : Hid (Below w.heap.size w w2) := (((Below.refl w.heap.size w).alloc (Nat.le_refl _) _).drew).trans (hb2.mono (by simp))
      have HB3 : Hid (Below w.heap.size w w3) := HB1.out.trans (hb3.mono HB1.out.size)
      clear hk3 hb2 hb3 q0 q1 q2 q3 q4 q5 q6 q7 f0 f1 f2 f3 f4 f5 f6 f7
      go_wp2
      go_ret
      exact ⟨ret_val (by rw [HG.out]; simp [ptI, ptif]), HB3.out⟩
   · have hz : z = false := by rw [HZ.out]; simp [h0, h1]
     subst hz
     have aw := andw_32 hi hhi
     have u0 := U0.out
     have u1 := U1.out
     have hg : getP lo hi = (1, 0, (hi : Int) % 65536, (hi : Int) / 65536, 0, 0, 0, false) := by simp [getP, h0, h1, sgn]
     have HG := Lib.hid hg
     clear hg
     clear h0 h1
     go_enter Tryz.func61, Tryz.ntmps61
     go_wp2
     have hblk := heap_alloc_new w (.cells #[.int .u8 a.toNat, .int .u8 b.toNat, .int .u8 c.toNat, .int .u8 d.toNat, .int .u8 e.toNat, .int .u8 f.toNat, .int .u8 g.toNat, .int .u8 i.toNat] 87 (0, 0))
     obtain ⟨q0, q1, q2, q3, q4, q5, q6, q7⟩ := cells8 hblk
     have HK := Lib.hid hblk
     clear hblk
     go_region_law (first | (go_simp; go_at_call 108; have hx := hb2; refine (HL.out _ _ (by decide)).mono ?_; rintro e' w3 ⟨rfl, hb3⟩) | (go_simp; go_at_call 108; refine (HL.out _ _ (by decide)).mono ?_; rintro e' w2 ⟨rfl, hb2⟩; have hk2 := kept8 (w := (w.alloc _).drew) HK.out hb2; obtain ⟨f0, f1, f2, f3, f4, f5, f6, f7⟩ := cells8 hk2; clear hk2))
     all_goals
      have hk3 := kept8 (kept8 (w := (w.alloc _).drew) HK.out hb2) hb3
      obtain ⟨r0, r1, r2, r3, r4, r5, r6, r7⟩ := cells8 hk3
      have HB1 : Hid (Below w.heap.size w w2) := (((Below.refl w.heap.size w).alloc (Nat.le_refl _) _).drew).trans (hb2.mono (by simp))
      have HB3 : Hid (Below w.heap.size w w3) := HB1.out.trans (hb3.mono HB1.out.size)
      clear hk3 hb2 hb3 q0 q1 q2 q3 q4 q5 q6 q7 f0 f1 f2 f3 f4 f5 f6 f7
      go_wp2
      go_ret
      exact ⟨ret_val (by rw [HG.out]; simp [ptI, ptif]), HB3.out⟩
 · have hz : z = false := by rw [HZ.out]; simp [h0]
   subst hz
   rcases c0 with c | c | c | c
   all_goals rw [c] at a3
   · have aw := andw_32 hi hhi
     have u0 := U0.out
     have u1 := U1.out
     have hg : getP lo hi = (1, sgn lo, (hi : Int) % 65536, (hi : Int) / 65536, 0, 0, 0, false) := by simp [getP, h0, c]
     have HG := Lib.hid hg
     clear hg
     clear h0 c
     go_enter Tryz.func61, Tryz.ntmps61
     go_wp2
     have hblk := heap_alloc_new w (.cells #[.int .u8 a.toNat, .int .u8 b.toNat, .int .u8 c.toNat, .int .u8 d.toNat, .int .u8 e.toNat, .int .u8 f.toNat, .int .u8 g.toNat, .int .u8 i.toNat] 87 (0, 0))
     obtain ⟨q0, q1, q2, q3, q4, q5, q6, q7⟩ := cells8 hblk
     have HK := Lib.hid hblk
     clear hblk
     go_region_law (first | (go_simp; go_at_call 108; have hx := hb2; refine (HL.out _ _ (by decide)).mono ?_; rintro e' w3 ⟨rfl, hb3⟩) | (go_simp; go_at_call 108; refine (HL.out _ _ (by decide)).mono ?_; rintro e' w2 ⟨rfl, hb2⟩; have hk2 := kept8 (w := (w.alloc _).drew) HK.out hb2; obtain ⟨f0, f1, f2, f3, f4, f5, f6, f7⟩ := cells8 hk2; clear hk2))
     all_goals
      have hk3 := kept8 (kept8 (w := (w.alloc _).drew) HK.out hb2) hb3
      obtain ⟨r0, r1, r2, r3, r4, r5, r6, r7⟩ := cells8 hk3
      have HB1 : Hid (Below w.heap.size w w2) := (((Below.refl w.heap.size w).alloc (Nat.le_refl _) _).drew).trans (hb2.mono (by simp))
      have HB3 : Hid (Below w.heap.size w w3) := HB1.out.trans (hb3.mono HB1.out.size)
      clear hk3 hb2 hb3 q0 q1 q2 q3 q4 q5 q6 q7 f0 f1 f2 f3 f4 f5 f6 f7
      go_wp2
      go_ret
      exact ⟨ret_val (by rw [HG.out]; simp [ptI, ptif]), HB3.out⟩
   · have aw := and7_32 hi hhi
     have u0 := U2.out
     have u1 := U3.out
     have hg : getP lo hi = (2, sgn lo, 0, 0, (hi : Int) % 8, (hi : Int) / 8, 0, false) := by simp [getP, h0, c]
     have HG := Lib.hid hg
     clear hg
     clear h0 c
     go_enter Tryz.func61, Tryz.ntmps61
     go_wp2
     have hblk := heap_alloc_new w (.cells #[.int .u8 a.toNat, .int .u8 b.toNat, .int .u8 c.toNat, .int .u8 d.toNat, .int .u8 e.toNat, .int .u8 f.toNat, .int .u8 g.toNat, .int .u8 i.toNat] 87 (0, 0))
     obtain ⟨q0, q1, q2, q3, q4, q5, q6, q7⟩ := cells8 hblk
     have HK := Lib.hid hblk
     clear hblk
     go_region_law (first | (go_simp; go_at_call 108; have hx := hb2; refine (HL.out _ _ (by decide)).mono ?_; rintro e' w3 ⟨rfl, hb3⟩) | (go_simp; go_at_call 108; refine (HL.out _ _ (by decide)).mono ?_; rintro e' w2 ⟨rfl, hb2⟩; have hk2 := kept8 (w := (w.alloc _).drew) HK.out hb2; obtain ⟨f0, f1, f2, f3, f4, f5, f6, f7⟩ := cells8 hk2; clear hk2))
     all_goals
      have hk3 := kept8 (kept8 (w := (w.alloc _).drew) HK.out hb2) hb3
      obtain ⟨r0, r1, r2, r3, r4, r5, r6, r7⟩ := cells8 hk3
      have HB1 : Hid (Below w.heap.size w w2) := (((Below.refl w.heap.size w).alloc (Nat.le_refl _) _).drew).trans (hb2.mono (by simp))
      have HB3 : Hid (Below w.heap.size w w3) := HB1.out.trans (hb3.mono HB1.out.size)
      clear hk3 hb2 hb3 q0 q1 q2 q3 q4 q5 q6 q7 f0 f1 f2 f3 f4 f5 f6 f7
      go_wp2
      go_ret
      exact ⟨ret_val (by rw [HG.out]; simp [ptI, ptif]), HB3.out⟩
   · have a4 := and4_32 lo hlo
     have u0 := U4.out
     have u1 := U5.out
     rcases c4 with dd | dd
     all_goals rw [dd] at a4
     · have hg : getP lo hi = (3, (lo : Int) / 8, 0, 0, 0, 0, (hi : Int), false) := by simp [getP, h0, c, dd]
       have HG := Lib.hid hg
       clear hg
       clear h0 c dd
       go_enter Tryz.func61, Tryz.ntmps61
       go_wp2
       have hblk := heap_alloc_new w (.cells #[.int .u8 a.toNat, .int .u8 b.toNat, .int .u8 c.toNat, .int .u8 d.toNat, .int .u8 e.toNat, .int .u8 f.toNat, .int .u8 g.toNat, .int .u8 i.toNat] 87 (0, 0))
       obtain ⟨q0, q1, q2, q3, q4, q5, q6, q7⟩ := cells8 hblk
       have HK := Lib.hid hblk
       clear hblk
       go_region_law (first | (go_simp; go_at_call 108; have hx := hb2; refine (HL.out _ _ (by decide)).mono ?_; rintro e' w3 ⟨rfl, hb3⟩) | (go_simp; go_at_call 108; refine (HL.out _ _ (by decide)).mono ?_; rintro e' w2 ⟨rfl, hb2⟩; have hk2 := kept8 (w := (w.alloc _).drew) HK.out hb2; obtain ⟨f0, f1, f2, f3, f4, f5, f6, f7⟩ := cells8 hk2; clear hk2))
       all_goals
        have hk3 := kept8 (kept8 (w := (w.alloc _).drew) HK.out hb2) hb3
        obtain ⟨r0, r1, r2, r3, r4, r5, r6, r7⟩ := cells8 hk3
        have HB1 : Hid (Below w.heap.size w w2) := (((Below.refl w.heap.size w).alloc (Nat.le_refl _) _).drew).trans (hb2.mono (by simp))
        have HB3 : Hid (Below w.heap.size w w3) := HB1.out.trans (hb3.mono HB1.out.size)
        clear hk3 hb2 hb3 q0 q1 q2 q3 q4 q5 q6 q7 f0 f1 f2 f3 f4 f5 f6 f7
        go_wp2
        go_ret
        exact ⟨ret_val (by rw [HG.out]; simp [ptI, ptif]), HB3.out⟩
     · have hg : getP lo hi = (3, (lo : Int) / 8, 0, 0, 0, 0, (hi : Int), true) := by simp [getP, h0, c, dd]
       have HG := Lib.hid hg
       clear hg
       clear h0 c dd
       go_enter Tryz.func61, Tryz.ntmps61
       go_wp2
       have hblk := heap_alloc_new w (.cells #[.int .u8 a.toNat, .int .u8 b.toNat, .int .u8 c.toNat, .int .u8 d.toNat, .int .u8 e.toNat, .int .u8 f.toNat, .int .u8 g.toNat, .int .u8 i.toNat] 87 (0, 0))
       obtain ⟨q0, q1, q2, q3, q4, q5, q6, q7⟩ := cells8 hblk
       have HK := Lib.hid hblk
       clear hblk
       go_region_law (first | (go_simp; go_at_call 108; have hx := hb2; refine (HL.out _ _ (by decide)).mono ?_; rintro e' w3 ⟨rfl, hb3⟩) | (go_simp; go_at_call 108; refine (HL.out _ _ (by decide)).mono ?_; rintro e' w2 ⟨rfl, hb2⟩; have hk2 := kept8 (w := (w.alloc _).drew) HK.out hb2; obtain ⟨f0, f1, f2, f3, f4, f5, f6, f7⟩ := cells8 hk2; clear hk2))
       all_goals
        have hk3 := kept8 (kept8 (w := (w.alloc _).drew) HK.out hb2) hb3
        obtain ⟨r0, r1, r2, r3, r4, r5, r6, r7⟩ := cells8 hk3
        have HB1 : Hid (Below w.heap.size w w2) := (((Below.refl w.heap.size w).alloc (Nat.le_refl _) _).drew).trans (hb2.mono (by simp))
        have HB3 : Hid (Below w.heap.size w w3) := HB1.out.trans (hb3.mono HB1.out.size)
        clear hk3 hb2 hb3 q0 q1 q2 q3 q4 q5 q6 q7 f0 f1 f2 f3 f4 f5 f6 f7
        go_wp2
        go_ret
        exact ⟨ret_val (by rw [HG.out]; simp [ptI, ptif]), HB3.out⟩
   · have hg : getP lo hi = (4, 0, 0, 0, 0, 0, 0, false) := by simp [getP, h0, c]
     have HG := Lib.hid hg
     clear hg
     clear h0 c
     go_enter Tryz.func61, Tryz.ntmps61
     go_wp2
     have hblk := heap_alloc_new w (.cells #[.int .u8 a.toNat, .int .u8 b.toNat, .int .u8 c.toNat, .int .u8 d.toNat, .int .u8 e.toNat, .int .u8 f.toNat, .int .u8 g.toNat, .int .u8 i.toNat] 87 (0, 0))
     obtain ⟨q0, q1, q2, q3, q4, q5, q6, q7⟩ := cells8 hblk
     have HK := Lib.hid hblk
     clear hblk
     go_region_law (first | (go_simp; go_at_call 108; have hx := hb2; refine (HL.out _ _ (by decide)).mono ?_; rintro e' w3 ⟨rfl, hb3⟩) | (go_simp; go_at_call 108; refine (HL.out _ _ (by decide)).mono ?_; rintro e' w2 ⟨rfl, hb2⟩; have hk2 := kept8 (w := (w.alloc _).drew) HK.out hb2; obtain ⟨f0, f1, f2, f3, f4, f5, f6, f7⟩ := cells8 hk2; clear hk2))
     all_goals
      have hk3 := kept8 (kept8 (w := (w.alloc _).drew) HK.out hb2) hb3
      obtain ⟨r0, r1, r2, r3, r4, r5, r6, r7⟩ := cells8 hk3
      have HB1 : Hid (Below w.heap.size w w2) := (((Below.refl w.heap.size w).alloc (Nat.le_refl _) _).drew).trans (hb2.mono (by simp))
      have HB3 : Hid (Below w.heap.size w w3) := HB1.out.trans (hb3.mono HB1.out.size)
      clear hk3 hb2 hb3 q0 q1 q2 q3 q4 q5 q6 q7 f0 f1 f2 f3 f4 f5 f6 f7
      go_wp2
      go_ret
      exact ⟨ret_val (by rw [HG.out]; simp [ptI, ptif]), HB3.out⟩
end Go.Proofs.YtlbfffokkhccaaaGreatDoor
namespace Go.Proofs.YtlbfffokkhccaaaGreatDoor
open Go.RowKit
def sgz (zs : List ByteArray) : Segs := zs.map (·.data.toList)
theorem sgz_get {zs : List ByteArray} {j : Nat} (h : j < zs.length) : sgS (sgz zs) j = zs[j].data.toList := by
 unfold sgS sgz
 rw [List.getElem?_map, List.getElem?_eq_getElem h]; rfl
theorem sgz_lt {zs : List ByteArray} {j p : Nat} (h : p < (sgS (sgz zs) j).length) : j < zs.length := by
 by_cases e : j < zs.length
 · exact e
 · rw [sgS_out (by unfold sgz; rw [List.length_map]; omega)] at h; cases h
theorem has_word {s : Segs} {j a : Nat} {t : List UInt8} (h : HasT s j (8 * a) t) (ht : t.length = 8) : ((sgS s j).drop (8 * a)).take 8 = t := by
 apply List.ext_getElem?
 intro q
 by_cases hq : q < 8
 · rw [List.getElem?_take_of_lt hq, List.getElem?_drop]; exact h q (by omega)
 · rw [List.getElem?_eq_none (by rw [List.length_take]; omega), List.getElem?_eq_none (by omega)]
theorem has_data {zs : List ByteArray} {j c : Nat} {d : ByteArray} (hj : j < zs.length) (h : HasT (sgz zs) j (8 * c) d.data.toList) : zs[j].extract (8 * c) (8 * c + d.size) = d := by
 apply bytes_eq
 rw [Lib.extract_data]
 have hd := data_toList d
 apply List.ext_getElem?
 intro q
 by_cases hq : q < d.size
 · rw [List.getElem?_take_of_lt (by omega), List.getElem?_drop]
   have := h q (by omega)
   unfold byteS at this
   rw [sgz_get hj] at this
   exact this
 · rw [List.getElem?_eq_none (by rw [List.length_take]; omega), List.getElem?_eq_none (by omega)]
def ptG (n : Nd) (off : Int) : Int × Int × Int × Int × Int × Int × Int × Bool :=
 if n.kind = 1 then (1, off, (n.data.size / 8 : Nat), (n.ptrs.length : Nat), 0, 0, 0, false) else (2, off, 0, 0, n.size, if n.size = 7 then (ownN n : Int) - 1 else n.count, 0, false)
def RdW (t : List UInt8) (x : Int × Int × Int × Int × Int × Int × Int × Bool) : Prop := t.length = 8 ∧ getP (leN t 0 4) (leN t 4 4) = x
theorem rd_none : RdW (zer 1) (0, 0, 0, 0, 0, 0, 0, false) := ⟨by decide, by rw [getP, if_pos (by decide)]⟩
theorem rd_ptr {n : Nd} {off : Int} (pn : PtOk n) (ho : -536870912 ≤ off ∧ off ≤ 536870911) (h0 : ¬ (n.kind = 1 ∧ off = 0 ∧ n.data.size / 8 = 0 ∧ n.ptrs.length = 0)) : RdW (ptrW n off) (ptG n off) := by
 refine ⟨ptrW_length n off, ?_⟩
 rw [ptrW_two]
 obtain ⟨hb1, hb2⟩ := pn.bd off
 obtain ⟨h1, h2⟩ := two_of (loP n off) (hiP n) hb1.1 hb1.2 hb2.1 hb2.2
 rw [show w8 (loP n off) (hiP n) = leB (loP n off) 4 ++ leB (hiP n) 4 from rfl]
 generalize leN (leB (loP n off) 4 ++ leB (hiP n) 4) 0 4 = lo at *
 generalize leN (leB (loP n off) 4 ++ leB (hiP n) 4) 4 4 = hi at *
 have hd := pn.data
 have hp := pn.ptrs
 unfold loP at h1
 unfold hiP at h2
 unfold ptG
 have ob := offN_bd off
 rcases pn.kind with k | k
 · rw [if_pos k] at h1 h2
   rw [if_pos k, getP, if_neg (by unfold offN at h1; omega), if_pos (by unfold offN at h1; omega), sgn_off off lo (.inl h1) ho.1 ho.2, show ((hi % 65536 : Nat) : Int) = (n.data.size / 8 : Nat) by omega, show ((hi / 65536 : Nat) : Int) = (n.ptrs.length : Nat) by omega]
 · rw [if_neg (by omega)] at h1 h2
   have hs := pn.size k
   rw [if_neg (by omega), getP, if_neg (by unfold offN at h1; omega), if_neg (by unfold offN at h1; omega), if_pos (by unfold offN at h1; omega), sgn_off off lo (.inr h1) ho.1 ho.2]
   by_cases e : n.size = 7
   · have ho' := pn.own k e
     rw [if_pos e] at h2
     rw [if_pos e, show ((hi % 8 : Nat) : Int) = n.size by omega, show ((hi / 8 : Nat) : Int) = (ownN n : Int) - 1 by omega]
   · rw [if_neg e] at h2
     rw [if_neg e, show ((hi % 8 : Nat) : Int) = n.size by omega, show ((hi / 8 : Nat) : Int) = n.count by omega]
theorem rd_far {pad j : Nat} (hp : pad ≤ 1000) (hj : j ≤ 10) : RdW (farW pad j) (3, (pad : Nat), 0, 0, 0, 0, (j : Nat), false) := by
 refine ⟨farW_length pad j, ?_⟩
 obtain ⟨h1, h2⟩ := two_of ((pad : Int) * 8 + 2) (j : Int) (by omega) (by omega) (by omega) (by omega)
 rw [show farW pad j = leB ((pad : Int) * 8 + 2) 4 ++ leB (j : Int) 4 from rfl]
 generalize leN (leB ((pad : Int) * 8 + 2) 4 ++ leB (j : Int) 4) 0 4 = lo at *
 generalize leN (leB ((pad : Int) * 8 + 2) 4 ++ leB (j : Int) 4) 4 4 = hi at *
 rw [getP, if_neg (by omega), if_neg (by omega), if_neg (by omega), if_pos (by omega), show ((lo / 8 : Nat) : Int) = (pad : Nat) by omega, show (hi : Int) = (j : Nat) by omega, show decide (lo / 4 % 2 = 1) = false by simp; omega]
def tgG (n : Nd) : Int × Int × Int × Int × Int × Int × Int × Bool :=
 if n.count = 0 ∧ itD n = 0 ∧ itP n = 0 then (0, 0, 0, 0, 0, 0, 0, false) else (1, n.count, (itD n : Nat), (itP n : Nat), 0, 0, 0, false)
theorem rd_tag {n : Nd} (hc : 0 ≤ n.count ∧ n.count < 12801) (hi : itD n ≤ 300 ∧ itP n ≤ 300) : RdW (tagW n) (tgG n) := by
 refine ⟨tagW_length n, ?_⟩
 have ob := offN_bd n.count
 obtain ⟨h1, h2⟩ := two_of (offN n.count) ((itD n : Nat) + 65536 * (itP n : Int)) (by omega) (by omega) (by omega) (by omega)
 rw [show tagW n = leB (offN n.count) 4 ++ leB ((itD n : Nat) + 65536 * (itP n : Int)) 4 from rfl]
 generalize leN (leB (offN n.count) 4 ++ leB ((itD n : Nat) + 65536 * (itP n : Int)) 4) 0 4 = lo at *
 generalize leN (leB (offN n.count) 4 ++ leB ((itD n : Nat) + 65536 * (itP n : Int)) 4) 4 4 = hi at *
 unfold tgG
 by_cases e : n.count = 0 ∧ itD n = 0 ∧ itP n = 0
 · rw [if_pos e, getP, if_pos (by unfold offN at h1; omega)]
 · rw [if_neg e, getP, if_neg (by unfold offN at h1; omega), if_pos (by unfold offN at h1; omega), sgn_off n.count lo (.inl h1) (by omega) (by omega), show ((hi % 65536 : Nat) : Int) = (itD n : Nat) by omega, show ((hi / 65536 : Nat) : Int) = (itP n : Nat) by omega]
theorem body_in {s : Segs} {d : Nat} {n : Nd} {j c : Nat} (hw : (sgS s j).length % 8 = 0) (h : BodyR (RepN s d) s n j c) (ho : ownB n ≠ 0) : c + ownB n ≤ wn (sgS s j) := by
 obtain ⟨h1, h2⟩ := h
 have hd := data_toList n.data
 unfold wn
 by_cases hp : n.ptrs.length = 0
 · unfold ownB at ho ⊢
   have := h1.le (by omega)
   omega
 · have := (h2 (n.ptrs.length - 1) (by omega)).le
   unfold ownB
   omega
theorem fill_in {s : Segs} {d : Nat} {n : Nd} {j c : Nat} (hw : (sgS s j).length % 8 = 0) (hf : formN n = true) (h : FillR (RepN s d) s n j c) (ho : ownN n ≠ 0) : c + ownN n ≤ wn (sgS s j) := by
 unfold FillR at h
 by_cases e : n.kind = 2 ∧ n.size = 7
 · rw [if_pos e] at h
   obtain ⟨g1, g2, g3⟩ := own_many hf e
   rw [g2]
   have ht := h.1.le (by rw [tagW_length]; omega)
   rw [tagW_length] at ht
   by_cases hz : n.items.length = 0 ∨ itD n + itP n = 0
   · have : n.items.length * (itD n + itP n) = 0 := by rcases hz with x | x <;> rw [x] <;> simp
     unfold wn
     omega
   · have hl : n.items.length - 1 < n.items.length := by omega
     have hb := h.2 (n.items.length - 1) hl
     have hy := item_own g1 _ (List.getElem_mem hl)
     have := body_in hw hb (by rw [hy]; omega)
     rw [hy] at this
     have e2 : n.items.length * (itD n + itP n) = (n.items.length - 1) * (itD n + itP n) + (itD n + itP n) := by
      obtain ⟨q, hq⟩ : ∃ q, n.items.length = q + 1 := ⟨n.items.length - 1, by omega⟩
      rw [hq, Nat.add_mul, Nat.one_mul, Nat.add_sub_cancel]
     omega
 · rw [if_neg e] at h
   rw [(own_plain hf e).1] at ho ⊢
   exact body_in hw h ho
end Go.Proofs.YtlbfffokkhccaaaGreatDoor
namespace Go.Proofs.YtlbfffokkhccaaaGreatDoor
open Go.RowKit
def wordsB (n : Nat) : Bool := decide (n % 8 = 0 ∧ n ≤ 1600)
set_option maxHeartbeats 400000 in
theorem isWords_any (s : ByteArray) (w : World) (hs : s.size ≤ maxLen) :
 Calls Tryz.prog 48 #[.string s] w fun e w' => e = .returned (.bool (wordsB s.size)) ∧ w = w' := by
 unfold maxLen at hs
 by_cases h1 : s.size % 8 = 0
 all_goals
  go_enter Tryz.func48, Tryz.ntmps48
  go_wp2
  go_ret
  refine ⟨ret_bool ?_, rfl⟩
  simp [wordsB, h1]
 omega
end Go.Proofs.YtlbfffokkhccaaaGreatDoor
namespace Go.Proofs.YtlbfffokkhccaaaGreatDoor
open Go.RowKit
set_option maxHeartbeats 400000 in
theorem wordAt_any (s : ByteArray) (i : Int) (w : World) (hs : s.size ≤ maxLen) (h0 : 0 ≤ i) (hi : 8 * i + 8 ≤ s.size) :
 Calls Tryz.prog 62 #[.string s, .int .i64 i] w fun e w' => e = .returned (.agg (wd ((s.data.toList.drop (8 * i.toNat)).take 8))) ∧ Below w.heap.size w w' := by
 obtain ⟨i, rfl⟩ := Int.eq_ofNat_of_zero_le h0
 unfold maxLen at hs
 have ewd : (s.extract (i * 8) s.size).data.toList.take 8 = (s.data.toList.drop (8 * (i : Int).toNat)).take 8 := by
  rw [Lib.extract_data, Nat.mul_comm]
  congr 2
  simp [List.take_of_length_le]
 have hsz : 8 ≤ (s.extract (i * 8) s.size).size := by simp; omega
 have hlen : ((s.extract (i * 8) s.size).data.toList.take 8).length = 8 := by simp; omega
 generalize hl : (s.extract (i * 8) s.size).data.toList.take 8 = l at ewd hlen
 rw [← ewd]
 have HL := Lib.hid hl
 clear ewd hl
 go_enter Tryz.func62, Tryz.ntmps62
 go_wp2
 have e1 : IntKind.i64.wrap ((i : Int) * 8) = (i : Int) * 8 := by rw [IntKind.wrap_i64]; omega
 have e2 : (0 : Int) ≤ (i : Int) * 8 := by omega
 have e3 : (i : Int) * 8 ≤ (s.size : Int) := by omega
 have e4 : ((i : Int) * 8).toNat = i * 8 := by omega
 go_region_law (refine step_copy_string_ge rfl (.tmp 6) (.tmp 10) 22 9 rfl 5 Tryz.underlying22 size5 (w.heap.size + 1) 8 8 (s.extract (i * 8) s.size) _ 87 rfl (by simp [Act.eval, Act.put]) (by simp [Act.eval, Act.put]) (heap_alloc2_new w _ _) hsz ?_; intro w4 hg4 hb4)
 clear e1 e2 e3 e4
 have hA : Hid (w4.heap[w.heap.size]? = some (.cells #[.int .u8 0, .int .u8 0, .int .u8 0, .int .u8 0, .int .u8 0, .int .u8 0, .int .u8 0, .int .u8 0] 87 (0, 0))) :=
  (hb4.out.block w.heap.size (by simp; omega) (by simp)).trans (heap_alloc2_old w _ _)
 have hB : Hid (Below w.heap.size w w4) := ((Below.refl _ _).alloc (Nat.le_refl _) _ |>.alloc (by simp) _ |>.drew).grown hb4.out (by simp; omega) (fun k e => by cases e; simp)
 clear hb4
 have hG : Hid (w4.heap[w.heap.size + 1]? = some (.cells (wd l) 87 (0, 0))) := by rw [← HL.out]; exact hg4.out
 have hlen := Lib.hid hlen
 clear hg4 HL
 go_wp2_with (first | (refine wpList_load_wd rfl 87 (.tmp 5) rfl (w.heap.size + 1) rfl 87 l _ hG.out Tryz.underlying87 rfl (by rw [hlen.out]; exact size46) ?_) | (refine wpList_store_wd rfl 87 (.tmp 4) (.tmp 12) rfl w.heap.size l rfl rfl 87 _ hA.out (by rw [hlen.out]; exact size46) (by rw [hlen.out]; rfl) ?_; intro w5 hg5 hb5))
 refine bodyPost_ret (v := .agg (wd l)) ?_ rfl ⟨rfl, hB.out.grown hb5.out (by have := hB.out.size; omega) (fun k e => by cases e; simp)⟩
 exact results_cell_row rfl _ _ w.heap.size 87 _ (0, 0) _ rfl hg5.out Tryz.underlying87 rfl (by rw [wd_size, hlen.out]; exact size46)
end Go.Proofs.YtlbfffokkhccaaaGreatDoor
namespace Go.Proofs.YtlbfffokkhccaaaGreatDoor
open Go.RowKit
theorem below_drawn {B : Nat} {a w : World} (h : Below B a w) (n : Nat) : Below B a (w.drewN n) := ⟨h.os, h.tape, h.output, h.size, h.block⟩
def Strs (w : World) (A : Option Addr) (ss : List ByteArray) : Prop :=
 (∀ s ∈ ss, s.size ≤ maxLen) ∧ (ss = [] ∨ ∃ a : Addr, A = some a ∧ a.block < w.heap.size ∧ ∀ i (h : i < ss.length), w.cell? (a.add i) = some (.string ss[i]))
theorem Strs.below {w w' : World} {A : Option Addr} {ss : List ByteArray} (h : Strs w A ss) (hb : Below w.heap.size w w') : Strs w' A ss := by
 refine ⟨h.1, ?_⟩
 rcases h.2 with h0 | ⟨a, ha, hlt, hc⟩
 · exact .inl h0
 · refine .inr ⟨a, ha, Nat.lt_of_lt_of_le hlt hb.size, fun i hi => ?_⟩
   have e : (a.add i).block = a.block := by unfold Addr.add; split <;> rfl
   exact (hb.cell (p := a.add i) (by rw [e]; exact hlt)).trans (hc i hi)
def tot (ss : List ByteArray) : Nat := (ss.map (·.size)).sum
theorem tot_take (ss : List ByteArray) (k : Nat) (h : k < ss.length) : tot (ss.take (k + 1)) = tot (ss.take k) + (ss[k]).size := by
 rw [List.take_succ_eq_append_getElem h, tot, tot, List.map_append, List.sum_append]
 simp
theorem tot_take_le (ss : List ByteArray) (k : Nat) : tot (ss.take k) ≤ tot ss := by
 conv => rhs; rw [← List.take_append_drop k ss]
 rw [tot, tot, List.map_append, List.sum_append]
 exact Nat.le_add_right _ _
end Go.Proofs.YtlbfffokkhccaaaGreatDoor
namespace Go.Proofs.YtlbfffokkhccaaaGreatDoor
open Go.RowKit Go.Deep
abbrev rdrT : TypeId := 66
abbrev plV (s a : Int) : Value := .agg #[.int .i64 s, .int .i64 a]
structure Rdr (w : World) (rb : Nat) (A : Option Addr) (cap : Nat) (zs : List ByteArray) (L : Int) : Prop where
 row : w.heap[rb]? = some (.cells #[.slice A zs.length cap, .int .i64 L] rdrT (0, 0))
 strs : Strs w A zs
 off : ∀ a, A = some a → a.block ≠ rb
 len : zs.length ≤ 6
 small : ∀ s ∈ zs, s.size ≤ 1600 ∧ s.size % 8 = 0
theorem Rdr.below {w w' : World} {rb cap : Nat} {A : Option Addr} {zs : List ByteArray} {L : Int} (h : Rdr w rb A cap zs L) (hb : Below w.heap.size w w') : Rdr w' rb A cap zs L :=
 ⟨(hb.block _ (row_lt h.row)).trans h.row, h.strs.below hb, h.off, h.len, h.small⟩
theorem Strs.keeps {w w' : World} {rb : Nat} {A : Option Addr} {zs : List ByteArray} (h : Strs w A zs) (ho : ∀ a, A = some a → a.block ≠ rb) (hk : Keeps w.heap.size rb w w') : Strs w' A zs := by
 refine ⟨h.1, ?_⟩
 rcases h.2 with h0 | ⟨a, ha, hlt, hc⟩
 · exact .inl h0
 · refine .inr ⟨a, ha, Nat.lt_of_lt_of_le hlt hk.size, fun i hi => ?_⟩
   rw [keeps_cell hk (a.add i) (by rw [addr_block]; exact hlt) (by rw [addr_block]; exact ho a ha)]
   exact hc i hi
theorem Rdr.lt {w : World} {rb cap : Nat} {A : Option Addr} {zs : List ByteArray} {L : Int} (h : Rdr w rb A cap zs L) : rb < w.heap.size := row_lt h.row
theorem w64_sm {n : Int} (h0 : -1000000000000 ≤ n) (h1 : n ≤ 1000000000000) : IntKind.i64.wrap n = n ∧ wrap64 n = n := by
 constructor
 · rw [IntKind.wrap_i64]; omega
 · unfold wrap64; omega
theorem behind_a (s a k : Int) (w : World) (h0 : -1000000 ≤ a) (h1 : a ≤ 1000000) (k0 : -1000000 ≤ k) (k1 : k ≤ 1000000) :
 Calls Tryz.prog 118 #[plV s a, .int .i64 k] w fun e w' => e = .returned (plV s (a + k)) ∧ Below w.heap.size w w' := by
 have e1 := (w64_sm (n := a + k) (by omega) (by omega)).1
 have e2 := (w64_sm (n := a + k) (by omega) (by omega)).2
 go_enter Tryz.func118, Tryz.ntmps118
 go_wp2
 refine bodyPost_ret (v := plV s (a + k)) ?_ rfl ⟨rfl, ((Below.refl _ _).alloc (Nat.le_refl _) _).alloc (by simp) _⟩
 have h1 := heap_alloc_new (w.alloc (.cells #[.int .i64 s, .int .i64 a] 58)) (.cells #[.int .i64 s, .int .i64 (a + k)] 58)
 rw [show (w.alloc (.cells #[.int .i64 s, .int .i64 a] 58)).heap.size = w.heap.size + 1 by simp] at h1
 obtain ⟨d0, d1⟩ := cell_pair h1
 simp [results, Tryz.results118, go_sem, d0, d1]
set_option maxHeartbeats 1000000 in
theorem has_a {w : World} {rb cap : Nat} {A : Option Addr} {zs : List ByteArray} {L : Int} (h : Rdr w rb A cap zs L) (j c k : Nat) (hj : j < zs.length) (hc : c + k ≤ (zs[j]).size / 8) :
 Calls Tryz.prog 44 #[.pointer (some ⟨rb, 0, none⟩), plV j c, .int .i64 k] w fun e w' => e = .returned (.bool true) ∧ Below w.heap.size w w' := by
 have hwi : ∀ W : World, Calls Tryz.prog 43 #[.int .i64 j, .int .i64 zs.length] W fun e w' => e = .returned (.bool true) ∧ w' = W := fun W => (within_a j zs.length W).mono (fun e w' ⟨h1, h2⟩ => ⟨by rw [h1]; congr 2; simp [wiB]; omega, h2.symm⟩)
 have hb := (Below.refl w.heap.size w).alloc (Nat.le_refl _) (.cells #[.int .i64 (j : Int), .int .i64 (c : Int)] 58)
 have HB := Lib.hid hb
 have hr := h.below hb
 have hx := heap_alloc_new w (.cells #[.int .i64 (j : Int), .int .i64 (c : Int)] 58)
 obtain ⟨c0, c1⟩ := cell_pair hr.row
 obtain ⟨d0, d1⟩ := cell_pair hx
 obtain ⟨a, rfl, hlt, hcs⟩ := hr.strs.2.resolve_left (by intro e; rw [e] at hj; cases hj)
 have hck := hcs j hj
 have hsm := h.small _ (List.getElem_mem hj)
 have e1 : (c : Int) ≥ 0 := by omega
 have e2 : decide ((k : Int) ≤ ((zs[j]).size : Int) / 8 - (c : Int)) = true := by simp; omega
 have hl6 := h.len
 clear h hr hb hcs hx
 go_enter Tryz.func44, Tryz.ntmps44
 go_wp2_with fail
 generalize w.alloc (.cells #[.int .i64 (j : Int), .int .i64 (c : Int)] 58) = W at *
 go_quiet ((go_at_call 43; exact Calls.quiet_of_same (hwi _)))
 go_wp2
 go_ret
 exact ⟨rfl, below_drawn HB.out nq⟩
set_option maxHeartbeats 1000000 in
theorem spend_a {w : World} {rb cap : Nat} {A : Option Addr} {zs : List ByteArray} {L : Int} (h : Rdr w rb A cap zs L) (k : Int) (hk0 : 0 ≤ k) (hk : k ≤ L) (hL : L ≤ 1000) :
 Calls Tryz.prog 165 #[.pointer (some ⟨rb, 0, none⟩), .int .i64 k] w fun e w' => e = .returned .nilIface ∧ Rdr w' rb A cap zs (L - k) ∧ Keeps w.heap.size rb w w' := by
 obtain ⟨c0, c1⟩ := cell_pair h.row
 have e1 := (w64_sm (n := L - k) (by omega) (by omega)).1
 have e2 := (w64_sm (n := L - k) (by omega) (by omega)).2
 go_enter Tryz.func165, Tryz.ntmps165
 have hfz := row_free h.row 1
 go_wp2
 go_ret
 refine ⟨rfl, ⟨pair_set1 h.row, h.strs.keeps h.off (set_keeps _ _ _ _ _), h.off, h.len, h.small⟩, set_keeps _ _ _ _ _⟩
end Go.Proofs.YtlbfffokkhccaaaGreatDoor
namespace Go.Proofs.YtlbfffokkhccaaaGreatDoor
open Go.RowKit Go.Deep
theorem readPointer_w {t : List UInt8} {x : Int × Int × Int × Int × Int × Int × Int × Bool} (h : RdW t x) (w : World) :
 Calls Tryz.prog 61 #[.agg (wd t)] w fun e w' => e = .returned (ptI x) ∧ Below w.heap.size w w' := by
 obtain ⟨h1, h2⟩ := h
 obtain ⟨a, b, c, d, e, f, g, i, rfl⟩ := len8 h1
 rw [← h2]
 exact readPointer_any a b c d e f g i w
set_option maxHeartbeats 1000000 in
theorem pointerAt_a {w : World} {rb cap : Nat} {A : Option Addr} {zs : List ByteArray} {L : Int} (h : Rdr w rb A cap zs L) (j c : Nat) (hj : j < zs.length) (hc : 8 * c + 8 ≤ (zs[j]).size) {x : Int × Int × Int × Int × Int × Int × Int × Bool} (hx : RdW (((zs[j]).data.toList.drop (8 * c)).take 8) x) :
 Calls Tryz.prog 85 #[.pointer (some ⟨rb, 0, none⟩), plV j c] w fun e w' => e = .returned (ptI x) ∧ Below w.heap.size w w' := by
 have hsm := h.small _ (List.getElem_mem hj)
 have hW : ∀ W : World, Calls Tryz.prog 62 #[.string zs[j], .int .i64 c] W fun e w' => e = .returned (.agg (wd (((zs[j]).data.toList.drop (8 * c)).take 8))) ∧ Below W.heap.size W w' := fun W => wordAt_any zs[j] c W (by unfold maxLen; omega) (by omega) (by omega)
 have hR := fun W : World => readPointer_w hx W
 generalize wd (((zs[j]).data.toList.drop (8 * c)).take 8) = t at *
 generalize ptI x = px at *
 have HW := Lib.hid hW
 have HR := Lib.hid hR
 clear hW hR hx
 have hb := (Below.refl w.heap.size w).alloc (Nat.le_refl _) (.cells #[.int .i64 (j : Int), .int .i64 (c : Int)] 58)
 have HB := Lib.hid hb
 have hr := h.below hb
 have hx := heap_alloc_new w (.cells #[.int .i64 (j : Int), .int .i64 (c : Int)] 58)
 obtain ⟨c0', c1'⟩ := cell_pair hr.row
 obtain ⟨d0', d1'⟩ := cell_pair hx
 obtain ⟨a, rfl, hlt, hcs⟩ := hr.strs.2.resolve_left (by intro e; rw [e] at hj; cases hj)
 have c0 := cell_regrown c0'
 have d0 := cell_regrown d0'
 have d1 := cell_regrown d1'
 have hck := cell_regrown (hcs j hj)
 have hl6 := h.len
 clear h hr hb hcs hx c0' c1' d0' d1'
 go_enter Tryz.func85, Tryz.ntmps85
 go_wp2_with fail
 generalize w.alloc (.cells #[.int .i64 (j : Int), .int .i64 (c : Int)] 58) = W at *
 refine wp_region_quiet_below (by kernel_rfl) (by kernel_rfl) ?_
 repeat (first | go_big_quiet_step (first | (go_at_call 62; exact Calls.regrown_of (HW.out _)) | (go_at_call 61; exact Calls.regrown_of (HR.out _))) | quiet_step (first | (go_at_call 62; exact Calls.regrown_of (HW.out _)) | (go_at_call 61; exact Calls.regrown_of (HR.out _))))
 refine wpQuiet_nil ?_
 intro _ hw'
 obtain ⟨⟨dq, osq⟩, hw''⟩ := hw'
 subst hw''
 have HF := Lib.hid (HB.out.trans ((below_regrown W dq osq).mono HB.out.size))
 generalize «Sort».grow (redrawn W dq) osq = W2 at *
 clear c0 d0 d1 hck
 go_wp2
 go_ret
 exact ⟨rfl, HF.out⟩
set_option maxHeartbeats 1000000 in
theorem bytesAt_a {w : World} {rb cap : Nat} {A : Option Addr} {zs : List ByteArray} {L : Int} (h : Rdr w rb A cap zs L) (j c k : Nat) (hj : j < zs.length) (hc : 8 * c + k ≤ (zs[j]).size) :
 Calls Tryz.prog 172 #[.pointer (some ⟨rb, 0, none⟩), plV j c, .int .i64 k] w fun e w' => e = .returned (.string ((zs[j]).extract (8 * c) (8 * c + k))) ∧ Below w.heap.size w w' := by
 have hsm := h.small _ (List.getElem_mem hj)
 have e1 := (w64_sm (n := (c : Int) * 8) (by omega) (by omega)).1
 have e2 := (w64_sm (n := (c : Int) * 8) (by omega) (by omega)).2
 have e3 := (w64_sm (n := (c : Int) * 8 + k) (by omega) (by omega)).1
 have e4 := (w64_sm (n := (c : Int) * 8 + k) (by omega) (by omega)).2
 have e5 : (0 : Int) ≤ (c : Int) * 8 := by omega
 have e6 : (c : Int) * 8 ≤ (c : Int) * 8 + k := by omega
 have e7 : (c : Int) * 8 + k ≤ ((zs[j]).size : Int) := by omega
 have e8 : ((c : Int) * 8).toNat = 8 * c := by omega
 have e9 : ((c : Int) * 8 + k).toNat = 8 * c + k := by omega
 have hb := (Below.refl w.heap.size w).alloc (Nat.le_refl _) (.cells #[.int .i64 (j : Int), .int .i64 (c : Int)] 58)
 have HB := Lib.hid hb
 have hr := h.below hb
 have hx := heap_alloc_new w (.cells #[.int .i64 (j : Int), .int .i64 (c : Int)] 58)
 obtain ⟨c0, c1⟩ := cell_pair hr.row
 obtain ⟨d0, d1⟩ := cell_pair hx
 obtain ⟨a, rfl, hlt, hcs⟩ := hr.strs.2.resolve_left (by intro e; rw [e] at hj; cases hj)
 have hck := hcs j hj
 have hl6 := h.len
 clear h hr hb hcs hx
 go_enter Tryz.func172, Tryz.ntmps172
 go_wp2_with fail
 generalize w.alloc (.cells #[.int .i64 (j : Int), .int .i64 (c : Int)] 58) = W at *
 go_quiet (fail)
 go_wp2
 go_ret
 exact ⟨rfl, below_drawn HB.out nq⟩
end Go.Proofs.YtlbfffokkhccaaaGreatDoor