/- impl's reading of a pointer. -/
import Derived.Test.YtialmfolgendlabNumber
import Derived.Test.YtialmfolgendlabPtMath
import Derived.Test.YtialmfolgendlabFits
import Derived.Test.YtialmfolgendlabPtGetS
import Derived.Stop.BytesEq
import Derived.Deep.RegionLaw
import Derived.Deep.RegionWith
import Derived.Deep.DeepMust
namespace Go.Proofs.Ytialmfolgendlab
open Go.RowKit
/-- a word as a value. -/
def wv (a b c d e f g i : UInt8) : Value := .agg #[.int .u8 a.toNat, .int .u8 b.toNat, .int .u8 c.toNat, .int .u8 d.toNat, .int .u8 e.toNat, .int .u8 f.toNat, .int .u8 g.toNat, .int .u8 i.toNat]
def zer8 (a b c d e f g i : UInt8) : Bool := [a, b, c, d, e, f, g, i] == [0, 0, 0, 0, 0, 0, 0, 0]
theorem eql_word (a b c d e f g i : UInt8) (w : World) :
    (binOp .eql 54 (.agg #[.int .u8 a.toNat, .int .u8 b.toNat, .int .u8 c.toNat, .int .u8 d.toNat, .int .u8 e.toNat, .int .u8 f.toNat, .int .u8 g.toNat, .int .u8 i.toNat]) (.agg #[.int .u8 0, .int .u8 0, .int .u8 0, .int .u8 0, .int .u8 0, .int .u8 0, .int .u8 0, .int .u8 0])).run Try.prog w = .ok (.bool (zer8 a b c d e f g i)) w :=
  run_eql_bytes w 54 5 8 Try.underlying54 Try.underlying5 (fun w => by kernel_rfl) [a, b, c, d, e, f, g, i] [0, 0, 0, 0, 0, 0, 0, 0] rfl rfl
theorem guard_word (op : BinOp) (x y : Operand) (xs ys : Array Value) (w : World) : (eqGuard op 54 x y (.agg xs) (.agg ys)).run Try.prog w = .ok () w := run_eqGuard_agg w _ _ _ _ _ _ (by kernel_rfl)
theorem zer8_eq (a b c d e f g i : UInt8) : zer8 a b c d e f g i = decide (leN [a, b, c, d, e, f, g, i] 0 4 = 0 ∧ leN [a, b, c, d, e, f, g, i] 4 4 = 0) := by
  have h1 : leN [a, b, c, d, e, f, g, i] 0 4 = a.toNat + 256 * (b.toNat + 256 * (c.toNat + 256 * (d.toNat + 256 * 0))) := rfl
  have h2 : leN [a, b, c, d, e, f, g, i] 4 4 = e.toNat + 256 * (f.toNat + 256 * (g.toNat + 256 * (i.toNat + 256 * 0))) := rfl
  rw [h1, h2, zer8, Bool.eq_iff_iff]
  simp [← UInt8.toNat_inj]
  omega
theorem w64_ok (n : Int) (h : 0 ≤ n ∧ n < 4294967296) : IntKind.i64.wrap n = n ∧ wrap64 n = n := by
  constructor
  · rw [IntKind.wrap_i64]; omega
  · unfold wrap64; omega
/-- a pointer's Point as an interface value. -/
def ptI (x : Int × Int × Int × Int × Int × Int × Int × Bool) : Value := ptif x.1 x.2.1 x.2.2.1 x.2.2.2.1 x.2.2.2.2.1 x.2.2.2.2.2.1 x.2.2.2.2.2.2.1 x.2.2.2.2.2.2.2
set_option maxHeartbeats 2000000 in
set_option maxRecDepth 100000 in
theorem readPointer_any (a b c d e f g i : UInt8) (w : World) :
    Calls Try.prog 42 #[wv a b c d e f g i] w fun e' w' => e' = .returned (ptI (getP (leN [a, b, c, d, e, f, g, i] 0 4) (leN [a, b, c, d, e, f, g, i] 4 4))) ∧ Below w.heap.size w w' := by
  have hl := leN_lt [a, b, c, d, e, f, g, i] 4 0
  have hh := leN_lt [a, b, c, d, e, f, g, i] 4 4
  have hL : ∀ (n : Int) (w : World), (n = 0 ∨ n = 4) → Calls Try.prog 62 #[wv a b c d e f g i, .int .i64 n, .int .i64 4] w fun e' w' => e' = .returned (.int .u64 (leI [a, b, c, d, e, f, g, i] n)) ∧ Below w.heap.size w w' :=
    fun n w hn => number_any [a, b, c, d, e, f, g, i] n 4 w rfl (by omega) (by decide) (by omega)
  have e0 : leI [a, b, c, d, e, f, g, i] 0 = ((leN [a, b, c, d, e, f, g, i] 0 4 : Nat) : Int) := rfl
  have e4 : leI [a, b, c, d, e, f, g, i] 4 = ((leN [a, b, c, d, e, f, g, i] 4 4 : Nat) : Int) := rfl
  have hz := zer8_eq a b c d e f g i
  generalize leN [a, b, c, d, e, f, g, i] 0 4 = lo at *
  generalize leN [a, b, c, d, e, f, g, i] 4 4 = hi at *
  generalize leI [a, b, c, d, e, f, g, i] = LE at *
  have he := eql_word a b c d e f g i
  have hg0 := fun op x y w => guard_word op x y #[.int .u8 a.toNat, .int .u8 b.toNat, .int .u8 c.toNat, .int .u8 d.toNat, .int .u8 e.toNat, .int .u8 f.toNat, .int .u8 g.toNat, .int .u8 i.toNat] #[.int .u8 0, .int .u8 0, .int .u8 0, .int .u8 0, .int .u8 0, .int .u8 0, .int .u8 0, .int .u8 0] w
  generalize zer8 a b c d e f g i = z at *
  have HL := Lib.hid hL
  have HZ := Lib.hid hz
  clear hL hz
  have hlo : lo < 4294967296 := hl
  have hhi : hi < 4294967296 := hh
  clear hl hh
  have c0 : lo % 4 = 0 ∨ lo % 4 = 1 ∨ lo % 4 = 2 ∨ lo % 4 = 3 := by omega
  have c4 : lo / 4 % 2 = 0 ∨ lo / 4 % 2 = 1 := by omega
  have U0 := Lib.hid (w64_ok ((hi : Int) % 65536) (by omega)).1
  have U1 := Lib.hid (w64_ok ((hi : Int) / 65536) (by omega)).1
  have U2 := Lib.hid (w64_ok ((hi : Int) % 8) (by omega)).1
  have U3 := Lib.hid (w64_ok ((hi : Int) / 8) (by omega)).1
  have U4 := Lib.hid (w64_ok ((lo : Int) / 8) (by omega)).1
  have U5 := Lib.hid (w64_ok (hi : Int) (by omega)).1
  have cu : IntKind.u32.wrap (lo : Int) = lo := by rw [IntKind.wrap_u32]; omega
  have ch : IntKind.u32.wrap (hi : Int) = hi := by rw [IntKind.wrap_u32]; omega
  have hm : ∃ m : Int, IntKind.i32.wrap (lo : Int) = m ∧ m / 4 = sgn lo ∧ IntKind.i64.wrap (sgn lo) = sgn lo := by
    refine ⟨_, rfl, ?_, ?_⟩
    · rw [IntKind.wrap_i32]; unfold sgn; split <;> omega
    · rw [IntKind.wrap_i64]; unfold sgn; split <;> omega
  obtain ⟨m, m1, m3, m4⟩ := hm
  have a3 := and3_32 lo hlo
  have z3 : bits .and .u32 0 3 = 0 := by decide
  unfold wv at HL ⊢
  by_cases h0 : lo = 0
  · have e0' : LE 0 = 0 := by rw [e0, h0]; rfl
    have cu0 : IntKind.u32.wrap 0 = 0 := by decide
    have ci0 : IntKind.i32.wrap 0 = 0 := by decide
    clear e0 a3 cu m1 m3 m4 c0 c4
    by_cases h1 : hi = 0
    · have e4' : LE 4 = 0 := by rw [e4, h1]; rfl
      have hz : z = true := by rw [HZ.out]; simp [h0, h1]
      subst hz
      clear e4 ch
      have hg : getP lo hi = (0, 0, 0, 0, 0, 0, 0, false) := by simp [getP, h0, h1]
      have HG := Lib.hid hg
      clear hg
      clear h0 h1
      go_enter Try.func42, Try.ntmps42
      go_wp2
      have hblk := heap_alloc_new w (.cells #[.int .u8 a.toNat, .int .u8 b.toNat, .int .u8 c.toNat, .int .u8 d.toNat, .int .u8 e.toNat, .int .u8 f.toNat, .int .u8 g.toNat, .int .u8 i.toNat] 54 (0, 0))
      obtain ⟨q0, q1, q2, q3, q4, q5, q6, q7⟩ := cells8 hblk
      have HK := Lib.hid hblk
      clear hblk
      go_region_law (first | (go_simp; go_at_call 62; have hx := hb2; refine (HL.out _ _ (by decide)).mono ?_; rintro e' w3 ⟨rfl, hb3⟩) | (go_simp; go_at_call 62; refine (HL.out _ _ (by decide)).mono ?_; rintro e' w2 ⟨rfl, hb2⟩; have hk2 := kept8 (w := (w.alloc _).drew) HK.out hb2; obtain ⟨f0, f1, f2, f3, f4, f5, f6, f7⟩ := cells8 hk2; clear hk2))
      all_goals
        have hk3 := kept8 (kept8 (w := (w.alloc _).drew) HK.out hb2) hb3
        obtain ⟨r0, r1, r2, r3, r4, r5, r6, r7⟩ := cells8 hk3
        have HB1 : Hid (Below w.heap.size w w2) := (((Below.refl w.heap.size w).alloc (Nat.le_refl _) _).drew).trans (hb2.mono (by simp))
        have HB3 : Hid (Below w.heap.size w w3) := HB1.out.trans (hb3.mono HB1.out.size)
        clear hk3 hb2 hb3 q0 q1 q2 q3 q4 q5 q6 q7 f0 f1 f2 f3 f4 f5 f6 f7
        go_wp2
        go_ret
        exact ⟨ret_val (by rw [HG.out]; simp [ptI, ptif]), HB3.out⟩
    · have hz : z = false := by rw [HZ.out]; simp [h0, h1]
      subst hz
      have aw := andw_32 hi hhi
      have u0 := U0.out
      have u1 := U1.out
      have hg : getP lo hi = (1, 0, (hi : Int) % 65536, (hi : Int) / 65536, 0, 0, 0, false) := by simp [getP, h0, h1, sgn]
      have HG := Lib.hid hg
      clear hg
      clear h0 h1
      go_enter Try.func42, Try.ntmps42
      go_wp2
      have hblk := heap_alloc_new w (.cells #[.int .u8 a.toNat, .int .u8 b.toNat, .int .u8 c.toNat, .int .u8 d.toNat, .int .u8 e.toNat, .int .u8 f.toNat, .int .u8 g.toNat, .int .u8 i.toNat] 54 (0, 0))
      obtain ⟨q0, q1, q2, q3, q4, q5, q6, q7⟩ := cells8 hblk
      have HK := Lib.hid hblk
      clear hblk
      go_region_law (first | (go_simp; go_at_call 62; have hx := hb2; refine (HL.out _ _ (by decide)).mono ?_; rintro e' w3 ⟨rfl, hb3⟩) | (go_simp; go_at_call 62; refine (HL.out _ _ (by decide)).mono ?_; rintro e' w2 ⟨rfl, hb2⟩; have hk2 := kept8 (w := (w.alloc _).drew) HK.out hb2; obtain ⟨f0, f1, f2, f3, f4, f5, f6, f7⟩ := cells8 hk2; clear hk2))
      all_goals
        have hk3 := kept8 (kept8 (w := (w.alloc _).drew) HK.out hb2) hb3
        obtain ⟨r0, r1, r2, r3, r4, r5, r6, r7⟩ := cells8 hk3
        have HB1 : Hid (Below w.heap.size w w2) := (((Below.refl w.heap.size w).alloc (Nat.le_refl _) _).drew).trans (hb2.mono (by simp))
        have HB3 : Hid (Below w.heap.size w w3) := HB1.out.trans (hb3.mono HB1.out.size)
        clear hk3 hb2 hb3 q0 q1 q2 q3 q4 q5 q6 q7 f0 f1 f2 f3 f4 f5 f6 f7
        go_wp2
        go_ret
        exact ⟨ret_val (by rw [HG.out]; simp [ptI, ptif]), HB3.out⟩
  · have hz : z = false := by rw [HZ.out]; simp [h0]
    subst hz
    rcases c0 with c | c | c | c
    all_goals rw [c] at a3
    · have aw := andw_32 hi hhi
      have u0 := U0.out
      have u1 := U1.out
      have hg : getP lo hi = (1, sgn lo, (hi : Int) % 65536, (hi : Int) / 65536, 0, 0, 0, false) := by simp [getP, h0, c]
      have HG := Lib.hid hg
      clear hg
      clear h0 c
      go_enter Try.func42, Try.ntmps42
      go_wp2
      have hblk := heap_alloc_new w (.cells #[.int .u8 a.toNat, .int .u8 b.toNat, .int .u8 c.toNat, .int .u8 d.toNat, .int .u8 e.toNat, .int .u8 f.toNat, .int .u8 g.toNat, .int .u8 i.toNat] 54 (0, 0))
      obtain ⟨q0, q1, q2, q3, q4, q5, q6, q7⟩ := cells8 hblk
      have HK := Lib.hid hblk
      clear hblk
      go_region_law (first | (go_simp; go_at_call 62; have hx := hb2; refine (HL.out _ _ (by decide)).mono ?_; rintro e' w3 ⟨rfl, hb3⟩) | (go_simp; go_at_call 62; refine (HL.out _ _ (by decide)).mono ?_; rintro e' w2 ⟨rfl, hb2⟩; have hk2 := kept8 (w := (w.alloc _).drew) HK.out hb2; obtain ⟨f0, f1, f2, f3, f4, f5, f6, f7⟩ := cells8 hk2; clear hk2))
      all_goals
        have hk3 := kept8 (kept8 (w := (w.alloc _).drew) HK.out hb2) hb3
        obtain ⟨r0, r1, r2, r3, r4, r5, r6, r7⟩ := cells8 hk3
        have HB1 : Hid (Below w.heap.size w w2) := (((Below.refl w.heap.size w).alloc (Nat.le_refl _) _).drew).trans (hb2.mono (by simp))
        have HB3 : Hid (Below w.heap.size w w3) := HB1.out.trans (hb3.mono HB1.out.size)
        clear hk3 hb2 hb3 q0 q1 q2 q3 q4 q5 q6 q7 f0 f1 f2 f3 f4 f5 f6 f7
        go_wp2
        go_ret
        exact ⟨ret_val (by rw [HG.out]; simp [ptI, ptif]), HB3.out⟩
    · have aw := and7_32 hi hhi
      have u0 := U2.out
      have u1 := U3.out
      have hg : getP lo hi = (2, sgn lo, 0, 0, (hi : Int) % 8, (hi : Int) / 8, 0, false) := by simp [getP, h0, c]
      have HG := Lib.hid hg
      clear hg
      clear h0 c
      go_enter Try.func42, Try.ntmps42
      go_wp2
      have hblk := heap_alloc_new w (.cells #[.int .u8 a.toNat, .int .u8 b.toNat, .int .u8 c.toNat, .int .u8 d.toNat, .int .u8 e.toNat, .int .u8 f.toNat, .int .u8 g.toNat, .int .u8 i.toNat] 54 (0, 0))
      obtain ⟨q0, q1, q2, q3, q4, q5, q6, q7⟩ := cells8 hblk
      have HK := Lib.hid hblk
      clear hblk
      go_region_law (first | (go_simp; go_at_call 62; have hx := hb2; refine (HL.out _ _ (by decide)).mono ?_; rintro e' w3 ⟨rfl, hb3⟩) | (go_simp; go_at_call 62; refine (HL.out _ _ (by decide)).mono ?_; rintro e' w2 ⟨rfl, hb2⟩; have hk2 := kept8 (w := (w.alloc _).drew) HK.out hb2; obtain ⟨f0, f1, f2, f3, f4, f5, f6, f7⟩ := cells8 hk2; clear hk2))
      all_goals
        have hk3 := kept8 (kept8 (w := (w.alloc _).drew) HK.out hb2) hb3
        obtain ⟨r0, r1, r2, r3, r4, r5, r6, r7⟩ := cells8 hk3
        have HB1 : Hid (Below w.heap.size w w2) := (((Below.refl w.heap.size w).alloc (Nat.le_refl _) _).drew).trans (hb2.mono (by simp))
        have HB3 : Hid (Below w.heap.size w w3) := HB1.out.trans (hb3.mono HB1.out.size)
        clear hk3 hb2 hb3 q0 q1 q2 q3 q4 q5 q6 q7 f0 f1 f2 f3 f4 f5 f6 f7
        go_wp2
        go_ret
        exact ⟨ret_val (by rw [HG.out]; simp [ptI, ptif]), HB3.out⟩
    · have a4 := and4_32 lo hlo
      have u0 := U4.out
      have u1 := U5.out
      rcases c4 with dd | dd
      all_goals rw [dd] at a4
      · have hg : getP lo hi = (3, (lo : Int) / 8, 0, 0, 0, 0, (hi : Int), false) := by simp [getP, h0, c, dd]
        have HG := Lib.hid hg
        clear hg
        clear h0 c dd
        go_enter Try.func42, Try.ntmps42
        go_wp2
        have hblk := heap_alloc_new w (.cells #[.int .u8 a.toNat, .int .u8 b.toNat, .int .u8 c.toNat, .int .u8 d.toNat, .int .u8 e.toNat, .int .u8 f.toNat, .int .u8 g.toNat, .int .u8 i.toNat] 54 (0, 0))
        obtain ⟨q0, q1, q2, q3, q4, q5, q6, q7⟩ := cells8 hblk
        have HK := Lib.hid hblk
        clear hblk
        go_region_law (first | (go_simp; go_at_call 62; have hx := hb2; refine (HL.out _ _ (by decide)).mono ?_; rintro e' w3 ⟨rfl, hb3⟩) | (go_simp; go_at_call 62; refine (HL.out _ _ (by decide)).mono ?_; rintro e' w2 ⟨rfl, hb2⟩; have hk2 := kept8 (w := (w.alloc _).drew) HK.out hb2; obtain ⟨f0, f1, f2, f3, f4, f5, f6, f7⟩ := cells8 hk2; clear hk2))
        all_goals
          have hk3 := kept8 (kept8 (w := (w.alloc _).drew) HK.out hb2) hb3
          obtain ⟨r0, r1, r2, r3, r4, r5, r6, r7⟩ := cells8 hk3
          have HB1 : Hid (Below w.heap.size w w2) := (((Below.refl w.heap.size w).alloc (Nat.le_refl _) _).drew).trans (hb2.mono (by simp))
          have HB3 : Hid (Below w.heap.size w w3) := HB1.out.trans (hb3.mono HB1.out.size)
          clear hk3 hb2 hb3 q0 q1 q2 q3 q4 q5 q6 q7 f0 f1 f2 f3 f4 f5 f6 f7
          go_wp2
          go_ret
          exact ⟨ret_val (by rw [HG.out]; simp [ptI, ptif]), HB3.out⟩
      · have hg : getP lo hi = (3, (lo : Int) / 8, 0, 0, 0, 0, (hi : Int), true) := by simp [getP, h0, c, dd]
        have HG := Lib.hid hg
        clear hg
        clear h0 c dd
        go_enter Try.func42, Try.ntmps42
        go_wp2
        have hblk := heap_alloc_new w (.cells #[.int .u8 a.toNat, .int .u8 b.toNat, .int .u8 c.toNat, .int .u8 d.toNat, .int .u8 e.toNat, .int .u8 f.toNat, .int .u8 g.toNat, .int .u8 i.toNat] 54 (0, 0))
        obtain ⟨q0, q1, q2, q3, q4, q5, q6, q7⟩ := cells8 hblk
        have HK := Lib.hid hblk
        clear hblk
        go_region_law (first | (go_simp; go_at_call 62; have hx := hb2; refine (HL.out _ _ (by decide)).mono ?_; rintro e' w3 ⟨rfl, hb3⟩) | (go_simp; go_at_call 62; refine (HL.out _ _ (by decide)).mono ?_; rintro e' w2 ⟨rfl, hb2⟩; have hk2 := kept8 (w := (w.alloc _).drew) HK.out hb2; obtain ⟨f0, f1, f2, f3, f4, f5, f6, f7⟩ := cells8 hk2; clear hk2))
        all_goals
          have hk3 := kept8 (kept8 (w := (w.alloc _).drew) HK.out hb2) hb3
          obtain ⟨r0, r1, r2, r3, r4, r5, r6, r7⟩ := cells8 hk3
          have HB1 : Hid (Below w.heap.size w w2) := (((Below.refl w.heap.size w).alloc (Nat.le_refl _) _).drew).trans (hb2.mono (by simp))
          have HB3 : Hid (Below w.heap.size w w3) := HB1.out.trans (hb3.mono HB1.out.size)
          clear hk3 hb2 hb3 q0 q1 q2 q3 q4 q5 q6 q7 f0 f1 f2 f3 f4 f5 f6 f7
          go_wp2
          go_ret
          exact ⟨ret_val (by rw [HG.out]; simp [ptI, ptif]), HB3.out⟩
    · have hg : getP lo hi = (4, 0, 0, 0, 0, 0, 0, false) := by simp [getP, h0, c]
      have HG := Lib.hid hg
      clear hg
      clear h0 c
      go_enter Try.func42, Try.ntmps42
      go_wp2
      have hblk := heap_alloc_new w (.cells #[.int .u8 a.toNat, .int .u8 b.toNat, .int .u8 c.toNat, .int .u8 d.toNat, .int .u8 e.toNat, .int .u8 f.toNat, .int .u8 g.toNat, .int .u8 i.toNat] 54 (0, 0))
      obtain ⟨q0, q1, q2, q3, q4, q5, q6, q7⟩ := cells8 hblk
      have HK := Lib.hid hblk
      clear hblk
      go_region_law (first | (go_simp; go_at_call 62; have hx := hb2; refine (HL.out _ _ (by decide)).mono ?_; rintro e' w3 ⟨rfl, hb3⟩) | (go_simp; go_at_call 62; refine (HL.out _ _ (by decide)).mono ?_; rintro e' w2 ⟨rfl, hb2⟩; have hk2 := kept8 (w := (w.alloc _).drew) HK.out hb2; obtain ⟨f0, f1, f2, f3, f4, f5, f6, f7⟩ := cells8 hk2; clear hk2))
      all_goals
        have hk3 := kept8 (kept8 (w := (w.alloc _).drew) HK.out hb2) hb3
        obtain ⟨r0, r1, r2, r3, r4, r5, r6, r7⟩ := cells8 hk3
        have HB1 : Hid (Below w.heap.size w w2) := (((Below.refl w.heap.size w).alloc (Nat.le_refl _) _).drew).trans (hb2.mono (by simp))
        have HB3 : Hid (Below w.heap.size w w3) := HB1.out.trans (hb3.mono HB1.out.size)
        clear hk3 hb2 hb3 q0 q1 q2 q3 q4 q5 q6 q7 f0 f1 f2 f3 f4 f5 f6 f7
        go_wp2
        go_ret
        exact ⟨ret_val (by rw [HG.out]; simp [ptI, ptif]), HB3.out⟩
end Go.Proofs.Ytialmfolgendlab
