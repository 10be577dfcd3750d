/- impl.ListWords and spec.ListWords answer the same at every argument. No condition. -/
import Derived.Test.YtliiffpegfkpbabIn
namespace Go.Proofs.Ytliiffpegfkpbab
open Go.RowKit

def withB (n b : Int) : Bool := decide (0 ≤ n ∧ n < b)
set_option maxHeartbeats 400000 in
theorem within_any (n b : Int) (w : World) :
    Calls Try.prog 15 #[.int .i64 n, .int .i64 b] w fun e w' => e = .returned (.bool (withB n b)) ∧ w = w' := by
  by_cases h1 : 0 ≤ n
  all_goals
    go_enter Try.func15, Try.ntmps15
    go_wp2
    all_goals go_ret
    all_goals refine ⟨ret_bool ?_, rfl⟩
    all_goals (simp [withB]; try omega)

/-- how many bits one of a size has. -/
def bitsOf (n : Int) : Int := if n = 1 then 1 else if n = 2 then 8 else if n = 3 then 16 else if n = 4 then 32 else if n = 5 then 64 else if n = 6 then 64 else 0
theorem bitsOf_bd (n : Int) : 0 ≤ bitsOf n ∧ bitsOf n ≤ 64 := by unfold bitsOf; split <;> (try split) <;> (try split) <;> (try split) <;> (try split) <;> (try split) <;> omega

/-- how many words so many of a size need. -/
def wfI (size count : Int) : Int := (bitsOf size * count + 63) / 64
/-- what ListWords answers. -/
def lwI (size count : Int) : Int := if (0 ≤ size ∧ size ≤ 6) ∧ (0 ≤ count ∧ count ≤ 1000000) then (bitsOf size * count + 63) / 64 else -1

end Go.Proofs.Ytliiffpegfkpbab
