/- The walk of the law FnUnpack. -/
import Derived.Test.YtgeldgikjcihgaaLawPackZero
import Derived.Test.YtgeldgikjcihgaaDrawUnp
import Derived.Test.YtgeldgikjcihgaaLawUnpack
namespace Go.Proofs.Ytgeldgikjcihgaa
open Go.RowKit
theorem un_words {s : ByteArray} {o : List UInt8} (h : fitU [] (unW s.data.toList) = some o) : o.length % 8 = 0 ∧ o.length ≤ 1600 := by
  cases hu : unW s.data.toList with
  | none => rw [hu] at h; cases h
  | some x =>
    rw [hu, fitU] at h
    split at h
    · rename_i hle
      have hx := unW_words hu
      cases h
      exact ⟨by simpa using hx, by simpa using hle⟩
    · cases h
theorem unV_words (s : ByteArray) : (unV s = .tuple #[.string ⟨#[]⟩, .bool false]) ∨ ∃ X : ByteArray, X.size % 8 = 0 ∧ X.size ≤ 1600 ∧ unV s = .tuple #[.string X, .bool true] := by
  cases h : fitU [] (unW s.data.toList) with
  | none => exact .inl (by rw [unV, h])
  | some o =>
    obtain ⟨h1, h2⟩ := un_words h
    exact .inr ⟨⟨o.toArray⟩, by rw [mk_sz]; exact h1, by rw [mk_sz]; exact h2, by rw [unV, h]⟩
set_option maxRecDepth 100000 in
set_option maxHeartbeats 4000000 in
theorem walkFnUnpack (w : World) (a : Option Addr) (len cap : Nat) (h : Arg w a len cap) :
    Calls Try.prog 4 #[.slice a len cap] w fun e w' => e = .returned (.bool true) ∧ Below w.heap.size w w' := by
  have hlen := h.1.1
  unfold maxLen at hlen
  by_cases hbig : 1048576 < len
  · go_enter Try.func4, Try.ntmps4
    go_wp2
    go_ret
    exact ⟨rfl, Below.refl _ _⟩
  go_enter Try.func4, Try.ntmps4
  go_wp2_with fail
  refine (drawUnpack_any a len cap _ h).mono ?_
  rintro e w1 ⟨s, hs, rfl, hb1⟩
  have HB2 := Lib.hid hb1
  have hI := fun w => implUnpack_any s w
  have hS := fun w => specUnpack_any s w (by omega)
  clear h hlen hbig hb1
  rcases unV_words s with hv | ⟨X, h8, h16, hv⟩
  all_goals
    rw [hv] at hI hS
    have HI := Lib.hid hI
    have HS := Lib.hid hS
    clear hI hS hv
    go_wp2_with fail
    with_reducible (refine (HI.out _).mono ?_)
    rintro e w3 ⟨rfl, hb3⟩
    have HB3 := Lib.hid (HB2.out.trans (hb3.mono HB2.out.size))
    clear hb3
    go_wp2_with fail
    with_reducible (refine (HS.out _).mono ?_)
    rintro e w4 ⟨rfl, hb4⟩
    have HB4 := Lib.hid (HB3.out.trans (hb4.mono HB3.out.size))
    clear hb4
  · go_wp2
    go_ret
    exact ⟨rfl, HB4.out⟩
  · have HP := Lib.hid (fun w => implPackS X w (by omega))
    have HU := Lib.hid (fun w => unPack1 X h8 h16 w)
    generalize pkS X = Y at HP HU
    go_wp2_with fail
    with_reducible (refine (HP.out _).mono ?_)
    rintro e w5 ⟨rfl, hb5⟩
    have HB5 := Lib.hid (HB4.out.trans (hb5.mono HB4.out.size))
    clear hb5
    go_wp2_with fail
    with_reducible (refine (HU.out _).mono ?_)
    rintro e w6 ⟨rfl, hb6⟩
    have HB6 := Lib.hid (HB5.out.trans (hb6.mono HB5.out.size))
    clear hb6
    go_wp2
    go_ret
    exact ⟨rfl, HB6.out⟩
end Go.Proofs.Ytgeldgikjcihgaa
