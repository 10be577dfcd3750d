/- The specification's draws of texts: DrawTextNode, DrawTextOf. -/
import Derived.Test.YtfiiopchfmcjdaaDrawNo
import Derived.Test.YtfiiopchfmcjdaaDrawCut
import Derived.Test.YtfiiopchfmcjdaaDraw3
import Derived.Test.YtfiiopchfmcjdaaTextD
namespace Go.Proofs.Ytfiiopchfmcjdaa
open Go.RowKit
theorem rep_sz (n : Nat) : (⟨(repL (⟨#[120]⟩ : ByteArray).data.toList n).toArray⟩ : ByteArray).size = n := by rw [mk_size, repL_length]; simp
set_option maxHeartbeats 2000000 in
theorem drawTextNode_any (a : Option Addr) (len cap : Nat) (w : World) (h : Arg w a len cap) :
    Calls Try.prog 20 #[.slice a len cap] w (DrawStr 101 w) := by
  go_enter Try.func20, Try.ntmps20
  go_wp2_with fail
  refine (l1Open_any a len cap _ h.1 h.2.1 h.2.2).mono ?_
  rintro e w1 ⟨R, rfl, hR, hrd, hb1⟩
  have hRl := hrd.lt
  go_wp2_with fail
  refine (l1Many_any ⟨#[120]⟩ 100 _ (by decide) (by decide) (by decide) (by decide)).mono ?_
  rintro e w2 ⟨rfl, rfl⟩
  go_wp2_with fail
  refine (l1Many_any ⟨#[120]⟩ 101 _ (by decide) (by decide) (by decide) (by decide)).mono ?_
  rintro e w3 ⟨rfl, rfl⟩
  go_wp2_with fail
  refine (of_any R 0 w1.heap.size 7 7 (fun z => z.size ≤ 101) _ _ (by exact hrd.below ((Below.refl _ _).alloc (Nat.le_refl _) _)) (by omega) (by exact Lits.newN _ _ _ _ rfl) (by
    intro v hv
    simp only [List.mem_cons, List.not_mem_nil, or_false] at hv
    rcases hv with rfl | rfl | rfl | rfl | rfl | rfl | rfl
    · exact ⟨_, rfl, by decide⟩
    · exact ⟨_, rfl, by decide⟩
    · exact ⟨_, rfl, by decide⟩
    · exact ⟨_, rfl, by decide⟩
    · exact ⟨_, rfl, by rw [rep_sz]; decide⟩
    · exact ⟨_, rfl, by rw [rep_sz]; decide⟩
    · exact ⟨_, rfl, by decide⟩) (by omega) (by simp) (by omega) (by omega)).mono ?_
  rintro e w4 ⟨u, hu, rfl, hp4⟩
  have hb4 := opened_below hR (hb1.alloc hb1.size _) hp4
  go_wp2
  go_ret
  exact ⟨u, hu, rfl, hb4⟩
def DrawTx (w : World) (e : Ending) (w' : World) : Prop := ∃ (n : Nd) (h : Hd), e = .returned (.agg #[.int .i64 n.kind, .string n.data, .slice h.A n.ptrs.length h.a, .int .i64 n.size, .int .i64 n.count, .slice h.B n.items.length h.b]) ∧ NdAt w' (From w.heap.size) 18 n h ∧ totN 18 n ≤ 300000 ∧ (n.kind = 2 → n.data.size ≤ 1592) ∧ Below w.heap.size w w'
theorem draw_bare {w w2 : World} (k : Int) (d : ByteArray) (s c : Int) (hd : d.size ≤ maxLen) (hz : w2.heap[w.heap.size]? = some (.cells #[.int .i64 0, .string { data := #[] }, .slice none 0 0, .int .i64 0, .int .i64 0, .slice none 0 0] nodeT (0, 0))) (hb : Below w.heap.size w w2) :
    ∃ wf, ((((((w2.setCell ⟨w.heap.size, 0, none⟩ (.int .i64 k)).setCell ⟨w.heap.size, 1, none⟩ (.string d)).setCell ⟨w.heap.size, 2, none⟩ (.slice none 0 0)).setCell ⟨w.heap.size, 3, none⟩ (.int .i64 s)).setCell ⟨w.heap.size, 4, none⟩ (.int .i64 c)).setCell ⟨w.heap.size, 5, none⟩ (.slice none 0 0)) = wf ∧ wf.heap[w.heap.size]? = some (.cells #[.int .i64 k, .string d, .slice none 0 0, .int .i64 s, .int .i64 c, .slice none 0 0] nodeT (0, 0)) ∧ NdAt wf (From w.heap.size) 18 (.mk k d [] s c []) noHd ∧ Below w.heap.size w wf :=
  draw_fin (n := .mk k d [] s c []) (h := noHd) hz (nd_bare w2 (From (w.heap.size + 1)) 18 k d s c hd) hb
end Go.Proofs.Ytfiiopchfmcjdaa
