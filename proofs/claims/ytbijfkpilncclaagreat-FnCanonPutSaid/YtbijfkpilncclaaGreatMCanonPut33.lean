/- Texts of the proof of the law FnCanonPut, side by side: part 33. -/
import Derived.Test.YtbijfkpilncclaaGreatMCanonPut00
import Derived.Test.YtbijfkpilncclaaGreatMCanonPut01
import Derived.Test.YtbijfkpilncclaaGreatMCanonPut02
import Derived.Test.YtbijfkpilncclaaGreatMCanonPut03
import Derived.Test.YtbijfkpilncclaaGreatMCanonPut04
import Derived.Test.YtbijfkpilncclaaGreatMCanonPut05
import Derived.Test.YtbijfkpilncclaaGreatMCanonPut06
import Derived.Test.YtbijfkpilncclaaGreatMCanonPut07
import Derived.Test.YtbijfkpilncclaaGreatMCanonPut08
import Derived.Test.YtbijfkpilncclaaGreatMCanonPut09
import Derived.Test.YtbijfkpilncclaaGreatMCanonPut10
import Derived.Test.YtbijfkpilncclaaGreatMCanonPut11
import Derived.Test.YtbijfkpilncclaaGreatMCanonPut12
import Derived.Test.YtbijfkpilncclaaGreatMCanonPut13
import Derived.Test.YtbijfkpilncclaaGreatMCanonPut14
import Derived.Test.YtbijfkpilncclaaGreatMCanonPut15
import Derived.Test.YtbijfkpilncclaaGreatMCanonPut16
import Derived.Test.YtbijfkpilncclaaGreatMCanonPut17
import Derived.Test.YtbijfkpilncclaaGreatMCanonPut18
import Derived.Test.YtbijfkpilncclaaGreatMCanonPut19
import Derived.Test.YtbijfkpilncclaaGreatMCanonPut20
import Derived.Test.YtbijfkpilncclaaGreatMCanonPut21
import Derived.Test.YtbijfkpilncclaaGreatMCanonPut22
import Derived.Test.YtbijfkpilncclaaGreatMCanonPut23
import Derived.Test.YtbijfkpilncclaaGreatMCanonPut24
import Derived.Test.YtbijfkpilncclaaGreatMCanonPut25
import Derived.Test.YtbijfkpilncclaaGreatMCanonPut26
import Derived.Test.YtbijfkpilncclaaGreatMCanonPut27
import Derived.Test.YtbijfkpilncclaaGreatMCanonPut28
import Derived.Test.YtbijfkpilncclaaGreatMCanonPut29
import Derived.Test.YtbijfkpilncclaaGreatMCanonPut30
import Derived.Test.YtbijfkpilncclaaGreatMCanonPut31
import Derived.Test.YtbijfkpilncclaaGreatMCanonPut32
namespace Go.Proofs.YtbijfkpilncclaaGreat
open Go.RowKit Go.Deep
def fitS (size : Nat) (ss : Segs) (i k : Nat) : Bool := decide (wn (sgS ss i) + k ≤ size)
set_option maxHeartbeats 2000000 in
set_option maxRecDepth 100000 in
theorem fits_any (base b size : Nat) (ss : Segs) (P : Nat → Prop) (w : World) (h : Bun w base b size ss P) (i k : Nat) (hi : i < ss.length) (hz : size ≤ 100000) (hk : k ≤ 100000) (ht : totS ss ≤ 100000) :
    Calls Tryz.prog 115 #[.pointer (some ⟨b, 0, none⟩), .int .i64 (i : Int), .int .i64 (k : Int)] w fun e w' => e = .returned (.bool (fitS size ss i k)) ∧ Below w.heap.size w w' := by
  obtain ⟨row, g, v, hB, hP⟩ := h
  obtain ⟨c0, c1, c2⟩ := cells3 hB.hb
  obtain ⟨r, cap, rfl, hcr⟩ := hB.row hi
  obtain ⟨A, cp, hv, hcg, hfg⟩ := hB.seg hi
  rw [hv] at hcg
  have hcri := hcr i hi
  have hlt : (i : Int) < (ss.length : Int) := by omega
  have hwi := wn_le_totS ss i
  obtain ⟨B, hBB⟩ : ∃ B, fitS size ss i k = B := ⟨_, rfl⟩
  have hd : decide ((wn (sgS ss i) : Int) + (k : Int) ≤ (size : Int)) = B := by rw [← hBB]; unfold fitS; rw [Bool.eq_iff_iff]; simp; omega
  rw [hBB]
  clear hBB hB hP hcr hfg hv
  generalize wn (sgS ss i) = x at *
  generalize totS ss = t at *
  generalize g i = gi at *
  cases B
  all_goals
    go_enter Tryz.func115, Tryz.ntmps115
    go_wp2_with fail
    go_quiet (fail)
    go_wp2
    go_ret
    exact ⟨rfl, ⟨rfl, rfl, rfl, Nat.le_refl _, fun _ _ => rfl⟩⟩
set_option maxHeartbeats 2000000 in
theorem behind_any (i a k : Nat) (w : World) (ha : a ≤ 1000000) (hk : k ≤ 1000000) :
    Calls Tryz.prog 114 #[.agg #[.int .i64 (i : Int), .int .i64 (a : Int)], .int .i64 (k : Int)] w fun e w' => e = .returned (.agg #[.int .i64 (i : Int), .int .i64 (a + k : Nat)]) ∧ Below w.heap.size w w' := by
  go_enter Tryz.func114, Tryz.ntmps114
  go_wp2
  refine bodyPost_ret (v := .agg #[.int .i64 (i : Int), .int .i64 ((a : Int) + (k : Int))]) (by simp [results, Tryz.results114, go_sem]) rfl ⟨by simp, ?_⟩
  exact ((Below.refl _ _).alloc (Nat.le_refl _) _).alloc (by simp) _
end Go.Proofs.YtbijfkpilncclaaGreat
