/- The specification's draws for the laws of nodes. -/
import Derived.Test.YtabipkpgmlmkcaaDrawAny
import Derived.Test.YtabipkpgmlmkcaaArgB
namespace Go.Proofs.Ytabipkpgmlmkcaa
open Go.RowKit
/-- some node of at most 18 levels, what is within lying in the call's own blocks. -/
def DrawN (w : World) (e : Ending) (w' : World) : Prop := ∃ (n : Nd) (h : Hd), e = .returned (.agg #[.int .i64 n.kind, .string n.data, .slice h.A n.ptrs.length h.a, .int .i64 n.size, .int .i64 n.count, .slice h.B n.items.length h.b]) ∧ NdAt w' (From w.heap.size) 18 n h ∧ totN 18 n ≤ 300000 ∧ Below w.heap.size w w'
theorem code_alloc {w : World} {a : Option Addr} {len : Nat} (h : Code w w.heap.size a len) (o : Obj) : Code (w.alloc o) (w.alloc o).heap.size a len :=
  (h.keeps (R := w.heap.size) (Keeps.of_below ((Below.refl w.heap.size w).alloc (Nat.le_refl _) o)) (Nat.le_refl _) (Nat.le_refl _)).mono (by simp)
theorem draw_fin {w w2 : World} {n : Nd} {h : Hd} {M : Nat} (hz : w2.heap[w.heap.size]? = some (.cells #[.int .i64 0, .string { data := #[] }, .slice none 0 0, .int .i64 0, .int .i64 0, .slice none 0 0] nodeT (0, 0))) (hn : NdAt w2 (From (w.heap.size + 1)) M n h) (hb : Below w.heap.size w w2) :
    ∃ wf, ((((((w2.setCell ⟨w.heap.size, 0, none⟩ (.int .i64 n.kind)).setCell ⟨w.heap.size, 1, none⟩ (.string n.data)).setCell ⟨w.heap.size, 2, none⟩ (.slice h.A n.ptrs.length h.a)).setCell ⟨w.heap.size, 3, none⟩ (.int .i64 n.size)).setCell ⟨w.heap.size, 4, none⟩ (.int .i64 n.count)).setCell ⟨w.heap.size, 5, none⟩ (.slice h.B n.items.length h.b)) = wf ∧ wf.heap[w.heap.size]? = some (.cells #[.int .i64 n.kind, .string n.data, .slice h.A n.ptrs.length h.a, .int .i64 n.size, .int .i64 n.count, .slice h.B n.items.length h.b] nodeT (0, 0)) ∧ NdAt wf (From w.heap.size) M n h ∧ Below w.heap.size w wf := by
  have hu : Upon (w.heap.size + 1) w2 ((((((w2.setCell ⟨w.heap.size, 0, none⟩ (.int .i64 n.kind)).setCell ⟨w.heap.size, 1, none⟩ (.string n.data)).setCell ⟨w.heap.size, 2, none⟩ (.slice h.A n.ptrs.length h.a)).setCell ⟨w.heap.size, 3, none⟩ (.int .i64 n.size)).setCell ⟨w.heap.size, 4, none⟩ (.int .i64 n.count)).setCell ⟨w.heap.size, 5, none⟩ (.slice h.B n.items.length h.b)) :=
    ((((((Upon.refl _ w2).setCell (p := ⟨w.heap.size, 0, none⟩) (by simp) _).setCell (p := ⟨w.heap.size, 1, none⟩) (by simp) _).setCell (p := ⟨w.heap.size, 2, none⟩) (by simp) _).setCell (p := ⟨w.heap.size, 3, none⟩) (by simp) _).setCell (p := ⟨w.heap.size, 4, none⟩) (by simp) _).setCell (p := ⟨w.heap.size, 5, none⟩) (by simp) _
  have hk : ∀ (W : World) (i : Nat) (v : Value), Below w.heap.size w W → Below w.heap.size w (W.setCell ⟨w.heap.size, i, none⟩ v) := fun W i v hW => hW.setCell (p := ⟨w.heap.size, i, none⟩) (Nat.le_refl _) v
  exact ⟨_, rfl, row_setN (row_setN (row_setN (row_setN (row_setN (row_setN hz 0 _) 1 _) 2 _) 3 _) 4 _) 5 _, (hn.upon hu).from_ (by omega), hk _ _ _ (hk _ _ _ (hk _ _ _ (hk _ _ _ (hk _ _ _ (hk _ _ _ hb)))))⟩
set_option maxHeartbeats 4000000 in
theorem drawNodeOk_any (a : Option Addr) (len cap : Nat) (w : World) (h : Arg w a len cap) :
    Calls Try.prog 9 #[.slice a len cap] w (DrawN w) := by
  go_enter Try.func9, Try.ntmps9
  go_wp2_with fail
  refine (l1Open_any a len cap _ (code_alloc h.1 _) h.2.1 h.2.2).mono ?_
  rintro e w1 ⟨R, rfl, hR, hrd, hb1⟩
  have hz1 := (hb1.block w.heap.size (by simp)).trans (heap_alloc_new w (.cells #[.int .i64 0, .string { data := #[] }, .slice none 0 0, .int .i64 0, .int .i64 0, .slice none 0 0] nodeT))
  go_wp2_with fail
  refine (l13AnyNode_any R 0 _ hrd (by omega)).mono ?_
  rintro e w2 ⟨n, hh, rfl, hn, ht, hp2⟩
  have hR' : w.heap.size + 1 ≤ R := by simpa using hR
  have hs1 : w.heap.size + 1 ≤ w1.heap.size := by simpa using hb1.size
  have hb0 : Below w.heap.size w w1 := ((Below.refl w.heap.size w).alloc (Nat.le_refl _) (.cells #[.int .i64 0, .string { data := #[] }, .slice none 0 0, .int .i64 0, .int .i64 0, .slice none 0 0] nodeT)).trans (hb1.mono (by simp))
  have hb2 := opened_below (by omega) hb0 hp2
  have hz2 := pick_rowN hz1 hp2 (by omega)
  have hn2 := hn.from_ hs1
  obtain ⟨z0, z1, z2, z3, z4, z5⟩ := cells6 hz2
  have zf := row_free hz2
  clear hb1 hp2 hb0 hz1 hrd
  go_wp2_with fail
  obtain ⟨wf, hwf, hrw, hnf, hbf⟩ := draw_fin hz2 hn2 hb2
  rw [hwf]
  obtain ⟨e0, e1, e2, e3, e4, e5⟩ := cells6 hrw
  exact bodyPost_ret (v := .agg #[.int .i64 n.kind, .string n.data, .slice hh.A n.ptrs.length hh.a, .int .i64 n.size, .int .i64 n.count, .slice hh.B n.items.length hh.b]) (by simp [results, Try.results9, go_sem, e0, e1, e2, e3, e4, e5]) rfl ⟨n, hh, rfl, hnf, ht.1, hbf⟩
set_option maxHeartbeats 4000000 in
theorem drawReadCost_any (a : Option Addr) (len cap : Nat) (w : World) (h : Arg w a len cap) :
    Calls Try.prog 13 #[.slice a len cap] w (DrawN w) := by
  go_enter Try.func13, Try.ntmps13
  go_wp2_with fail
  refine (l1Open_any a len cap _ (code_alloc h.1 _) h.2.1 h.2.2).mono ?_
  rintro e w1 ⟨R, rfl, hR, hrd, hb1⟩
  have hz1 := (hb1.block w.heap.size (by simp)).trans (heap_alloc_new w (.cells #[.int .i64 0, .string { data := #[] }, .slice none 0 0, .int .i64 0, .int .i64 0, .slice none 0 0] nodeT))
  go_wp2_with fail
  refine (l13AnyNode_any R 0 _ hrd (by omega)).mono ?_
  rintro e w2 ⟨n, hh, rfl, hn, ht, hp2⟩
  have hR' : w.heap.size + 1 ≤ R := by simpa using hR
  have hs1 : w.heap.size + 1 ≤ w1.heap.size := by simpa using hb1.size
  have hb0 : Below w.heap.size w w1 := ((Below.refl w.heap.size w).alloc (Nat.le_refl _) (.cells #[.int .i64 0, .string { data := #[] }, .slice none 0 0, .int .i64 0, .int .i64 0, .slice none 0 0] nodeT)).trans (hb1.mono (by simp))
  have hb2 := opened_below (by omega) hb0 hp2
  have hz2 := pick_rowN hz1 hp2 (by omega)
  have hn2 := hn.from_ hs1
  obtain ⟨z0, z1, z2, z3, z4, z5⟩ := cells6 hz2
  have zf := row_free hz2
  clear hb1 hp2 hb0 hz1 hrd
  go_wp2_with fail
  obtain ⟨wf, hwf, hrw, hnf, hbf⟩ := draw_fin hz2 hn2 hb2
  rw [hwf]
  obtain ⟨e0, e1, e2, e3, e4, e5⟩ := cells6 hrw
  exact bodyPost_ret (v := .agg #[.int .i64 n.kind, .string n.data, .slice hh.A n.ptrs.length hh.a, .int .i64 n.size, .int .i64 n.count, .slice hh.B n.items.length hh.b]) (by simp [results, Try.results13, go_sem, e0, e1, e2, e3, e4, e5]) rfl ⟨n, hh, rfl, hnf, ht.1, hbf⟩
end Go.Proofs.Ytabipkpgmlmkcaa
