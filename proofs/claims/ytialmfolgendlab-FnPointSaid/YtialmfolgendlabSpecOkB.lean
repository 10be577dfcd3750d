/- spec.PointOk, kind by kind (str). -/
import Derived.Test.YtialmfolgendlabSpecOk
import Derived.Deep.RegionLaw
import Derived.Deep.RegionWith
import Derived.Deep.DeepMust
namespace Go.Proofs.Ytialmfolgendlab
open Go.RowKit
set_option maxHeartbeats 4000000 in
set_option maxRecDepth 100000 in
theorem specPointOk_str (o d p s c g : Int) (t : Bool) (w : World) :
    Calls Try.prog 16 #[ptv 1 o d p s c g t] w fun e w' => e = .returned (.bool (inB o (-536870912) 536870911 && (inB d 0 65535 && (inB p 0 65535 && ((s == 0 && c == 0) && ((g == 0 && !t) && (!(o == 0) || decide (0 < d + p)))))))) ∧ Below w.heap.size w w' := by
  unfold ptv
  cases b0 : (d == 0)
  · cases b1 : (s == 0)
    · cases b2 : (g == 0)
      · cases b3 : (inB o (-536870912) 536870911)
        · go_enter Try.func16, Try.ntmps16
          go_wp2_with (go_at_call 41; refine (l1In_any _ _ _ _).mono ?_; rintro e w' ⟨rfl, rfl⟩)
          go_ret
          exact ⟨ret_bool (by simp [*]), (Below.refl _ _).alloc (Nat.le_refl _) _⟩
        · cases b4 : (inB d 0 65535)
          · go_enter Try.func16, Try.ntmps16
            go_wp2_with (go_at_call 41; refine (l1In_any _ _ _ _).mono ?_; rintro e w' ⟨rfl, rfl⟩)
            go_ret
            exact ⟨ret_bool (by simp [*]), (Below.refl _ _).alloc (Nat.le_refl _) _⟩
          · cases b5 : (inB p 0 65535)
            · go_enter Try.func16, Try.ntmps16
              go_wp2_with (go_at_call 41; refine (l1In_any _ _ _ _).mono ?_; rintro e w' ⟨rfl, rfl⟩)
              go_ret
              exact ⟨ret_bool (by simp [*]), (Below.refl _ _).alloc (Nat.le_refl _) _⟩
            · have hw : IntKind.i64.wrap (d + p) = d + p := wrap_dp b4 b5
              go_enter Try.func16, Try.ntmps16
              go_wp2_with (go_at_call 41; refine (l1In_any _ _ _ _).mono ?_; rintro e w' ⟨rfl, rfl⟩)
              go_ret
              exact ⟨ret_bool (by simp [*]), (Below.refl _ _).alloc (Nat.le_refl _) _⟩
      · cases b3 : (inB o (-536870912) 536870911)
        · go_enter Try.func16, Try.ntmps16
          go_wp2_with (go_at_call 41; refine (l1In_any _ _ _ _).mono ?_; rintro e w' ⟨rfl, rfl⟩)
          go_ret
          exact ⟨ret_bool (by simp [*]), (Below.refl _ _).alloc (Nat.le_refl _) _⟩
        · cases b4 : (inB d 0 65535)
          · go_enter Try.func16, Try.ntmps16
            go_wp2_with (go_at_call 41; refine (l1In_any _ _ _ _).mono ?_; rintro e w' ⟨rfl, rfl⟩)
            go_ret
            exact ⟨ret_bool (by simp [*]), (Below.refl _ _).alloc (Nat.le_refl _) _⟩
          · cases b5 : (inB p 0 65535)
            · go_enter Try.func16, Try.ntmps16
              go_wp2_with (go_at_call 41; refine (l1In_any _ _ _ _).mono ?_; rintro e w' ⟨rfl, rfl⟩)
              go_ret
              exact ⟨ret_bool (by simp [*]), (Below.refl _ _).alloc (Nat.le_refl _) _⟩
            · have hw : IntKind.i64.wrap (d + p) = d + p := wrap_dp b4 b5
              go_enter Try.func16, Try.ntmps16
              go_wp2_with (go_at_call 41; refine (l1In_any _ _ _ _).mono ?_; rintro e w' ⟨rfl, rfl⟩)
              go_ret
              exact ⟨ret_bool (by simp [*]), (Below.refl _ _).alloc (Nat.le_refl _) _⟩
    · cases b2 : (g == 0)
      · cases b3 : (inB o (-536870912) 536870911)
        · go_enter Try.func16, Try.ntmps16
          go_wp2_with (go_at_call 41; refine (l1In_any _ _ _ _).mono ?_; rintro e w' ⟨rfl, rfl⟩)
          go_ret
          exact ⟨ret_bool (by simp [*]), (Below.refl _ _).alloc (Nat.le_refl _) _⟩
        · cases b4 : (inB d 0 65535)
          · go_enter Try.func16, Try.ntmps16
            go_wp2_with (go_at_call 41; refine (l1In_any _ _ _ _).mono ?_; rintro e w' ⟨rfl, rfl⟩)
            go_ret
            exact ⟨ret_bool (by simp [*]), (Below.refl _ _).alloc (Nat.le_refl _) _⟩
          · cases b5 : (inB p 0 65535)
            · go_enter Try.func16, Try.ntmps16
              go_wp2_with (go_at_call 41; refine (l1In_any _ _ _ _).mono ?_; rintro e w' ⟨rfl, rfl⟩)
              go_ret
              exact ⟨ret_bool (by simp [*]), (Below.refl _ _).alloc (Nat.le_refl _) _⟩
            · cases b6 : (c == 0)
              · have hw : IntKind.i64.wrap (d + p) = d + p := wrap_dp b4 b5
                go_enter Try.func16, Try.ntmps16
                go_wp2_with (go_at_call 41; refine (l1In_any _ _ _ _).mono ?_; rintro e w' ⟨rfl, rfl⟩)
                go_ret
                exact ⟨ret_bool (by simp [*]), (Below.refl _ _).alloc (Nat.le_refl _) _⟩
              · cases b7 : (o == 0)
                · have hw : IntKind.i64.wrap (d + p) = d + p := wrap_dp b4 b5
                  have n_ : (o != 0) = true := by simp [bne, b7]
                  have m_ : o ≠ 0 := by simpa using b7
                  go_enter Try.func16, Try.ntmps16
                  go_wp2_with (go_at_call 41; refine (l1In_any _ _ _ _).mono ?_; rintro e w' ⟨rfl, rfl⟩)
                  go_ret
                  exact ⟨ret_bool (by simp [*]), (Below.refl _ _).alloc (Nat.le_refl _) _⟩
                · have hw : IntKind.i64.wrap (d + p) = d + p := wrap_dp b4 b5
                  have n_ : (o != 0) = false := by simp [bne, b7]
                  have m_ : o = 0 := by simpa using b7
                  go_enter Try.func16, Try.ntmps16
                  go_wp2_with (go_at_call 41; refine (l1In_any _ _ _ _).mono ?_; rintro e w' ⟨rfl, rfl⟩)
                  go_ret
                  exact ⟨ret_bool (by simp [*]), (Below.refl _ _).alloc (Nat.le_refl _) _⟩
      · cases b3 : (inB o (-536870912) 536870911)
        · go_enter Try.func16, Try.ntmps16
          go_wp2_with (go_at_call 41; refine (l1In_any _ _ _ _).mono ?_; rintro e w' ⟨rfl, rfl⟩)
          go_ret
          exact ⟨ret_bool (by simp [*]), (Below.refl _ _).alloc (Nat.le_refl _) _⟩
        · cases b4 : (inB d 0 65535)
          · go_enter Try.func16, Try.ntmps16
            go_wp2_with (go_at_call 41; refine (l1In_any _ _ _ _).mono ?_; rintro e w' ⟨rfl, rfl⟩)
            go_ret
            exact ⟨ret_bool (by simp [*]), (Below.refl _ _).alloc (Nat.le_refl _) _⟩
          · cases b5 : (inB p 0 65535)
            · go_enter Try.func16, Try.ntmps16
              go_wp2_with (go_at_call 41; refine (l1In_any _ _ _ _).mono ?_; rintro e w' ⟨rfl, rfl⟩)
              go_ret
              exact ⟨ret_bool (by simp [*]), (Below.refl _ _).alloc (Nat.le_refl _) _⟩
            · cases b6 : (c == 0)
              · have hw : IntKind.i64.wrap (d + p) = d + p := wrap_dp b4 b5
                go_enter Try.func16, Try.ntmps16
                go_wp2_with (go_at_call 41; refine (l1In_any _ _ _ _).mono ?_; rintro e w' ⟨rfl, rfl⟩)
                go_ret
                exact ⟨ret_bool (by simp [*]), (Below.refl _ _).alloc (Nat.le_refl _) _⟩
              · cases t
                · cases b8 : (o == 0)
                  · have hw : IntKind.i64.wrap (d + p) = d + p := wrap_dp b4 b5
                    have n_ : (o != 0) = true := by simp [bne, b8]
                    have m_ : o ≠ 0 := by simpa using b8
                    go_enter Try.func16, Try.ntmps16
                    go_wp2_with (go_at_call 41; refine (l1In_any _ _ _ _).mono ?_; rintro e w' ⟨rfl, rfl⟩)
                    go_ret
                    exact ⟨ret_bool (by simp [*]), (Below.refl _ _).alloc (Nat.le_refl _) _⟩
                  · have hw : IntKind.i64.wrap (d + p) = d + p := wrap_dp b4 b5
                    have n_ : (o != 0) = false := by simp [bne, b8]
                    have m_ : o = 0 := by simpa using b8
                    go_enter Try.func16, Try.ntmps16
                    go_wp2_with (go_at_call 41; refine (l1In_any _ _ _ _).mono ?_; rintro e w' ⟨rfl, rfl⟩)
                    go_ret
                    exact ⟨ret_bool (by simp [*]), (Below.refl _ _).alloc (Nat.le_refl _) _⟩
                · have hw : IntKind.i64.wrap (d + p) = d + p := wrap_dp b4 b5
                  go_enter Try.func16, Try.ntmps16
                  go_wp2_with (go_at_call 41; refine (l1In_any _ _ _ _).mono ?_; rintro e w' ⟨rfl, rfl⟩)
                  go_ret
                  exact ⟨ret_bool (by simp [*]), (Below.refl _ _).alloc (Nat.le_refl _) _⟩
  · cases b1 : (s == 0)
    · cases b2 : (g == 0)
      · cases b3 : (inB o (-536870912) 536870911)
        · go_enter Try.func16, Try.ntmps16
          go_wp2_with (go_at_call 41; refine (l1In_any _ _ _ _).mono ?_; rintro e w' ⟨rfl, rfl⟩)
          go_ret
          exact ⟨ret_bool (by simp [*]), (Below.refl _ _).alloc (Nat.le_refl _) _⟩
        · cases b4 : (inB d 0 65535)
          · go_enter Try.func16, Try.ntmps16
            go_wp2_with (go_at_call 41; refine (l1In_any _ _ _ _).mono ?_; rintro e w' ⟨rfl, rfl⟩)
            go_ret
            exact ⟨ret_bool (by simp [*]), (Below.refl _ _).alloc (Nat.le_refl _) _⟩
          · cases b5 : (inB p 0 65535)
            · go_enter Try.func16, Try.ntmps16
              go_wp2_with (go_at_call 41; refine (l1In_any _ _ _ _).mono ?_; rintro e w' ⟨rfl, rfl⟩)
              go_ret
              exact ⟨ret_bool (by simp [*]), (Below.refl _ _).alloc (Nat.le_refl _) _⟩
            · have hw : IntKind.i64.wrap (d + p) = d + p := wrap_dp b4 b5
              go_enter Try.func16, Try.ntmps16
              go_wp2_with (go_at_call 41; refine (l1In_any _ _ _ _).mono ?_; rintro e w' ⟨rfl, rfl⟩)
              go_ret
              exact ⟨ret_bool (by simp [*]), (Below.refl _ _).alloc (Nat.le_refl _) _⟩
      · cases b3 : (inB o (-536870912) 536870911)
        · go_enter Try.func16, Try.ntmps16
          go_wp2_with (go_at_call 41; refine (l1In_any _ _ _ _).mono ?_; rintro e w' ⟨rfl, rfl⟩)
          go_ret
          exact ⟨ret_bool (by simp [*]), (Below.refl _ _).alloc (Nat.le_refl _) _⟩
        · cases b4 : (inB d 0 65535)
          · go_enter Try.func16, Try.ntmps16
            go_wp2_with (go_at_call 41; refine (l1In_any _ _ _ _).mono ?_; rintro e w' ⟨rfl, rfl⟩)
            go_ret
            exact ⟨ret_bool (by simp [*]), (Below.refl _ _).alloc (Nat.le_refl _) _⟩
          · cases b5 : (inB p 0 65535)
            · go_enter Try.func16, Try.ntmps16
              go_wp2_with (go_at_call 41; refine (l1In_any _ _ _ _).mono ?_; rintro e w' ⟨rfl, rfl⟩)
              go_ret
              exact ⟨ret_bool (by simp [*]), (Below.refl _ _).alloc (Nat.le_refl _) _⟩
            · have hw : IntKind.i64.wrap (d + p) = d + p := wrap_dp b4 b5
              go_enter Try.func16, Try.ntmps16
              go_wp2_with (go_at_call 41; refine (l1In_any _ _ _ _).mono ?_; rintro e w' ⟨rfl, rfl⟩)
              go_ret
              exact ⟨ret_bool (by simp [*]), (Below.refl _ _).alloc (Nat.le_refl _) _⟩
    · cases b2 : (g == 0)
      · cases b3 : (inB o (-536870912) 536870911)
        · go_enter Try.func16, Try.ntmps16
          go_wp2_with (go_at_call 41; refine (l1In_any _ _ _ _).mono ?_; rintro e w' ⟨rfl, rfl⟩)
          go_ret
          exact ⟨ret_bool (by simp [*]), (Below.refl _ _).alloc (Nat.le_refl _) _⟩
        · cases b4 : (inB d 0 65535)
          · go_enter Try.func16, Try.ntmps16
            go_wp2_with (go_at_call 41; refine (l1In_any _ _ _ _).mono ?_; rintro e w' ⟨rfl, rfl⟩)
            go_ret
            exact ⟨ret_bool (by simp [*]), (Below.refl _ _).alloc (Nat.le_refl _) _⟩
          · cases b5 : (inB p 0 65535)
            · go_enter Try.func16, Try.ntmps16
              go_wp2_with (go_at_call 41; refine (l1In_any _ _ _ _).mono ?_; rintro e w' ⟨rfl, rfl⟩)
              go_ret
              exact ⟨ret_bool (by simp [*]), (Below.refl _ _).alloc (Nat.le_refl _) _⟩
            · cases b6 : (c == 0)
              · have hw : IntKind.i64.wrap (d + p) = d + p := wrap_dp b4 b5
                go_enter Try.func16, Try.ntmps16
                go_wp2_with (go_at_call 41; refine (l1In_any _ _ _ _).mono ?_; rintro e w' ⟨rfl, rfl⟩)
                go_ret
                exact ⟨ret_bool (by simp [*]), (Below.refl _ _).alloc (Nat.le_refl _) _⟩
              · cases b7 : (o == 0)
                · have hw : IntKind.i64.wrap (d + p) = d + p := wrap_dp b4 b5
                  have n_ : (o != 0) = true := by simp [bne, b7]
                  have m_ : o ≠ 0 := by simpa using b7
                  go_enter Try.func16, Try.ntmps16
                  go_wp2_with (go_at_call 41; refine (l1In_any _ _ _ _).mono ?_; rintro e w' ⟨rfl, rfl⟩)
                  go_ret
                  exact ⟨ret_bool (by simp [*]), (Below.refl _ _).alloc (Nat.le_refl _) _⟩
                · have hw : IntKind.i64.wrap (d + p) = d + p := wrap_dp b4 b5
                  have n_ : (o != 0) = false := by simp [bne, b7]
                  have m_ : o = 0 := by simpa using b7
                  go_enter Try.func16, Try.ntmps16
                  go_wp2_with (go_at_call 41; refine (l1In_any _ _ _ _).mono ?_; rintro e w' ⟨rfl, rfl⟩)
                  go_ret
                  exact ⟨ret_bool (by simp [*]), (Below.refl _ _).alloc (Nat.le_refl _) _⟩
      · cases b3 : (inB o (-536870912) 536870911)
        · go_enter Try.func16, Try.ntmps16
          go_wp2_with (go_at_call 41; refine (l1In_any _ _ _ _).mono ?_; rintro e w' ⟨rfl, rfl⟩)
          go_ret
          exact ⟨ret_bool (by simp [*]), (Below.refl _ _).alloc (Nat.le_refl _) _⟩
        · cases b4 : (inB d 0 65535)
          · go_enter Try.func16, Try.ntmps16
            go_wp2_with (go_at_call 41; refine (l1In_any _ _ _ _).mono ?_; rintro e w' ⟨rfl, rfl⟩)
            go_ret
            exact ⟨ret_bool (by simp [*]), (Below.refl _ _).alloc (Nat.le_refl _) _⟩
          · cases b5 : (inB p 0 65535)
            · go_enter Try.func16, Try.ntmps16
              go_wp2_with (go_at_call 41; refine (l1In_any _ _ _ _).mono ?_; rintro e w' ⟨rfl, rfl⟩)
              go_ret
              exact ⟨ret_bool (by simp [*]), (Below.refl _ _).alloc (Nat.le_refl _) _⟩
            · cases b6 : (c == 0)
              · have hw : IntKind.i64.wrap (d + p) = d + p := wrap_dp b4 b5
                go_enter Try.func16, Try.ntmps16
                go_wp2_with (go_at_call 41; refine (l1In_any _ _ _ _).mono ?_; rintro e w' ⟨rfl, rfl⟩)
                go_ret
                exact ⟨ret_bool (by simp [*]), (Below.refl _ _).alloc (Nat.le_refl _) _⟩
              · cases t
                · cases b8 : (o == 0)
                  · have hw : IntKind.i64.wrap (d + p) = d + p := wrap_dp b4 b5
                    have n_ : (o != 0) = true := by simp [bne, b8]
                    have m_ : o ≠ 0 := by simpa using b8
                    go_enter Try.func16, Try.ntmps16
                    go_wp2_with (go_at_call 41; refine (l1In_any _ _ _ _).mono ?_; rintro e w' ⟨rfl, rfl⟩)
                    go_ret
                    exact ⟨ret_bool (by simp [*]), (Below.refl _ _).alloc (Nat.le_refl _) _⟩
                  · have hw : IntKind.i64.wrap (d + p) = d + p := wrap_dp b4 b5
                    have n_ : (o != 0) = false := by simp [bne, b8]
                    have m_ : o = 0 := by simpa using b8
                    go_enter Try.func16, Try.ntmps16
                    go_wp2_with (go_at_call 41; refine (l1In_any _ _ _ _).mono ?_; rintro e w' ⟨rfl, rfl⟩)
                    go_ret
                    exact ⟨ret_bool (by simp [*]), (Below.refl _ _).alloc (Nat.le_refl _) _⟩
                · have hw : IntKind.i64.wrap (d + p) = d + p := wrap_dp b4 b5
                  go_enter Try.func16, Try.ntmps16
                  go_wp2_with (go_at_call 41; refine (l1In_any _ _ _ _).mono ?_; rintro e w' ⟨rfl, rfl⟩)
                  go_ret
                  exact ⟨ret_bool (by simp [*]), (Below.refl _ _).alloc (Nat.le_refl _) _⟩
end Go.Proofs.Ytialmfolgendlab
