/- The walk of the law FnHex: true at every code. -/
import Derived.Test.YtialmfolgendlaaHex
import Derived.Test.YtialmfolgendlaaDraw3
import Derived.Lib.QuietBelow
import Derived.BigQuiet
namespace Go.Proofs.Ytialmfolgendlaa
open Go.RowKit
theorem hexL_append (a b : List UInt8) : hexL (a ++ b) = hexL a ++ hexL b := by simp [hexL]
def hexS (s : ByteArray) : ByteArray := ⟨(hexL s.data.toList).toArray⟩
theorem hexS_size (s : ByteArray) : (hexS s).size = 2 * s.size := by rw [hexS, mk_size, hexL_length, ba_size]
theorem hexS_append (s : ByteArray) (k : Nat) : hexS (s.extract 0 k) ++ hexS (s.extract k s.size) = hexS s := by
  have hcut : (s.extract 0 k).data.toList ++ (s.extract k s.size).data.toList = s.data.toList := by
    rw [Lib.extract_data, Lib.extract_data]; simp [List.take_of_length_le]
  have hcat := hexL_append (s.extract 0 k).data.toList (s.extract k s.size).data.toList
  rw [hcut] at hcat
  apply ext_ba
  rw [app_ba, hexS, hexS, hexS, hcat]
theorem implHexS (s : ByteArray) (w : World) (hs : s.size ≤ 1048576) :
    Calls Try.prog 30 #[.string s] w fun e w' => e = .returned (.string (hexS s)) ∧ Below w.heap.size w w' := implHex_any s w hs
theorem specHexS (s : ByteArray) (w : World) (hs : s.size ≤ 1048576) :
    Calls Try.prog 31 #[.string s] w fun e w' => e = .returned (.string (hexS s)) ∧ Below w.heap.size w w' := specHex_any s w hs
theorem hx_then {a w w1 : World} (h : Below a.heap.size a w) (hb : Below w.drew.heap.size w.drew w1) : Below a.heap.size a w1 := h.drew.trans (hb.mono h.size)
set_option maxHeartbeats 1000000 in
theorem walkFnHex (w : World) (a : Option Addr) (len cap : Nat) (h : Arg w a len cap) (a2 : Option Addr) (len2 cap2 : Nat) (h2 : Arg w a2 len2 cap2) :
    Calls Try.prog 7 #[.slice a len cap, .slice a2 len2 cap2] w fun e w' => e = .returned (.bool true) ∧ Below w.heap.size w w' := by
  have hlen := h.1.1
  have hlen2 := h2.1.1
  unfold maxLen at hlen hlen2
  by_cases hbig : 1048576 < len
  · go_enter Try.func7, Try.ntmps7
    go_wp2
    go_ret
    exact ⟨rfl, Below.refl _ _⟩
  by_cases hbig2 : 1048576 < len2
  · go_enter Try.func7, Try.ntmps7
    go_wp2
    go_ret
    exact ⟨rfl, Below.refl _ _⟩
  go_enter Try.func7, Try.ntmps7
  go_wp2_with fail
  refine (drawHex_any a len cap _ h).mono ?_
  rintro e w1 ⟨s, hs, rfl, hb13⟩
  have hsm : s.size ≤ 1048576 := by omega
  go_wp2_with fail
  refine (implHexS s _ hsm).mono ?_
  rintro e w2 ⟨rfl, hbx⟩
  replace hb13 := hb13.trans (hbx.mono hb13.size)
  clear hbx
  obtain ⟨k, hk, hkm⟩ : ∃ k : Nat, (len2 : Int) % ((s.size : Int) + 1) = (k : Int) ∧ k ≤ s.size := by
    refine ⟨len2 % (s.size + 1), by rw [show (s.size : Int) + 1 = ((s.size + 1 : Nat) : Int) by omega]; exact (Int.natCast_emod _ _).symm, ?_⟩
    have := Nat.mod_lt len2 (show 0 < s.size + 1 by omega)
    omega
  have hcat := hexS_append s k
  have hu : (s.extract 0 k).size ≤ 1048576 := by simp; omega
  have hv : (s.extract k s.size).size ≤ 1048576 := by simp; omega
  generalize hue : s.extract 0 k = u at hcat hu
  generalize hve : s.extract k s.size = v at hcat hv
  have hkt : (len2 : Int).tmod ((s.size : Int) + 1) = (k : Int) := by rw [Int.tmod_eq_emod_of_nonneg (by omega)]; exact hk
  have hu2 := hexS_size u
  have hv2 := hexS_size v
  have f1 : ¬ 9223372036854775807 < (hexS u).size + (hexS v).size := by omega
  have hX : Hid (∀ w : World, Calls Try.prog 31 #[.string s] w fun e w' => e = .returned (.string (hexS s)) ∧ Below w.heap.size w w') := Lib.hid (fun w => specHexS s w hsm)
  obtain ⟨M, hM⟩ : ∃ M : Nat, M = 2 * s.size := ⟨_, rfl⟩
  have hXs : ((hexS s).size : Int) = (M : Int) := by rw [hexS_size, hM]
  have f2 : IntKind.i64.wrap (2 * (s.size : Int)) = (M : Int) := by rw [IntKind.wrap_i64]; omega
  have k0 : (0 : Int) ≤ (k : Int) := by omega
  have k1 : (k : Int) ≤ (s.size : Int) := by omega
  generalize hexS s = X at hcat hX hXs ⊢
  clear hk hu2 hv2 hM hs hlen hlen2 hbig hbig2
  go_wp2_with fail
  refine wp_region_quiet_below (by kernel_rfl) (by kernel_rfl) ?_
  repeat (first | go_big_quiet_step (first | (go_at_call 31; exact Calls.regrown_of (hX.out _)) | (go_at_call 30; exact Calls.regrown_of (implHexS _ _ (by first | exact hu | exact hv)))) | quiet_step (first | (go_at_call 31; exact Calls.regrown_of (hX.out _)) | (go_at_call 30; exact Calls.regrown_of (implHexS _ _ (by first | exact hu | exact hv)))))
  refine wpQuiet_nil ?_
  intro _ hw'
  obtain ⟨⟨dq, osq⟩, hw''⟩ := hw'
  subst hw''
  go_wp2
  go_ret
  exact ⟨rfl, hb13.trans ((below_regrown w2 dq osq).mono hb13.size)⟩
end Go.Proofs.Ytialmfolgendlaa
