/- The specification's draws of texts: DrawTextNode, DrawTextOf. -/
import Derived.Test.YtabipkpgmlmkcaaDrawNo
import Derived.Test.YtabipkpgmlmkcaaDrawCut
import Derived.Test.YtabipkpgmlmkcaaDraw3
import Derived.Test.YtabipkpgmlmkcaaTextD
namespace Go.Proofs.Ytabipkpgmlmkcaa
open Go.RowKit
theorem rep_sz (n : Nat) : (⟨(repL (⟨#[120]⟩ : ByteArray).data.toList n).toArray⟩ : ByteArray).size = n := by rw [mk_size, repL_length]; simp
set_option maxHeartbeats 2000000 in
theorem drawTextNode_any (a : Option Addr) (len cap : Nat) (w : World) (h : Arg w a len cap) :
    Calls Try.prog 27 #[.slice a len cap] w (DrawStr 101 w) := by
  go_enter Try.func27, Try.ntmps27
  go_wp2_with fail
  refine (l1Open_any a len cap _ h.1 h.2.1 h.2.2).mono ?_
  rintro e w1 ⟨R, rfl, hR, hrd, hb1⟩
  have hRl := hrd.lt
  go_wp2_with fail
  refine (l1Many_any ⟨#[120]⟩ 100 _ (by decide) (by decide) (by decide) (by decide)).mono ?_
  rintro e w2 ⟨rfl, rfl⟩
  go_wp2_with fail
  refine (l1Many_any ⟨#[120]⟩ 101 _ (by decide) (by decide) (by decide) (by decide)).mono ?_
  rintro e w3 ⟨rfl, rfl⟩
  go_wp2_with fail
  refine (of_any R 0 w1.heap.size 7 7 (fun z => z.size ≤ 101) _ _ (by exact hrd.below ((Below.refl _ _).alloc (Nat.le_refl _) _)) (by omega) (by exact Lits.newN _ _ _ _ rfl) (by
    intro v hv
    simp only [List.mem_cons, List.not_mem_nil, or_false] at hv
    rcases hv with rfl | rfl | rfl | rfl | rfl | rfl | rfl
    · exact ⟨_, rfl, by decide⟩
    · exact ⟨_, rfl, by decide⟩
    · exact ⟨_, rfl, by decide⟩
    · exact ⟨_, rfl, by decide⟩
    · exact ⟨_, rfl, by rw [rep_sz]; decide⟩
    · exact ⟨_, rfl, by rw [rep_sz]; decide⟩
    · exact ⟨_, rfl, by decide⟩) (by omega) (by simp) (by omega) (by omega)).mono ?_
  rintro e w4 ⟨u, hu, rfl, hp4⟩
  have hb4 := opened_below hR (hb1.alloc hb1.size _) hp4
  go_wp2
  go_ret
  exact ⟨u, hu, rfl, hb4⟩
def DrawTx (w : World) (e : Ending) (w' : World) : Prop := ∃ (n : Nd) (h : Hd), e = .returned (.agg #[.int .i64 n.kind, .string n.data, .slice h.A n.ptrs.length h.a, .int .i64 n.size, .int .i64 n.count, .slice h.B n.items.length h.b]) ∧ NdAt w' (From w.heap.size) 18 n h ∧ totN 18 n ≤ 300000 ∧ (n.kind = 2 → n.data.size ≤ 1592) ∧ Below w.heap.size w w'
theorem draw_bare {w w2 : World} (k : Int) (d : ByteArray) (s c : Int) (hd : d.size ≤ maxLen) (hz : w2.heap[w.heap.size]? = some (.cells #[.int .i64 0, .string { data := #[] }, .slice none 0 0, .int .i64 0, .int .i64 0, .slice none 0 0] nodeT (0, 0))) (hb : Below w.heap.size w w2) :
    ∃ wf, ((((((w2.setCell ⟨w.heap.size, 0, none⟩ (.int .i64 k)).setCell ⟨w.heap.size, 1, none⟩ (.string d)).setCell ⟨w.heap.size, 2, none⟩ (.slice none 0 0)).setCell ⟨w.heap.size, 3, none⟩ (.int .i64 s)).setCell ⟨w.heap.size, 4, none⟩ (.int .i64 c)).setCell ⟨w.heap.size, 5, none⟩ (.slice none 0 0)) = wf ∧ wf.heap[w.heap.size]? = some (.cells #[.int .i64 k, .string d, .slice none 0 0, .int .i64 s, .int .i64 c, .slice none 0 0] nodeT (0, 0)) ∧ NdAt wf (From w.heap.size) 18 (.mk k d [] s c []) noHd ∧ Below w.heap.size w wf :=
  draw_fin (n := .mk k d [] s c []) (h := noHd) hz (nd_bare w2 (From (w.heap.size + 1)) 18 k d s c hd) hb
set_option maxHeartbeats 8000000 in
set_option maxRecDepth 100000 in
theorem drawTextOf_any (a : Option Addr) (len cap : Nat) (w : World) (h : Arg w a len cap) :
    Calls Try.prog 29 #[.slice a len cap] w (DrawTx w) := by
  go_enter Try.func29, Try.ntmps29
  go_wp2_with fail
  refine (l1Open_any a len cap _ (code_alloc h.1 _) h.2.1 h.2.2).mono ?_
  rintro e w1 ⟨R, rfl, hR, hrd, hb1⟩
  have hz1 := (hb1.block w.heap.size (by simp)).trans (heap_alloc_new w (.cells #[.int .i64 0, .string { data := #[] }, .slice none 0 0, .int .i64 0, .int .i64 0, .slice none 0 0] nodeT))
  have hR' : w.heap.size + 1 ≤ R := by simpa using hR
  have hs1 : w.heap.size + 1 ≤ w1.heap.size := by simpa using hb1.size
  have hRl := hrd.lt
  have hb0 : Below w.heap.size w w1 := ((Below.refl w.heap.size w).alloc (Nat.le_refl _) (.cells #[.int .i64 0, .string { data := #[] }, .slice none 0 0, .int .i64 0, .int .i64 0, .slice none 0 0] nodeT)).trans (hb1.mono (by simp))
  clear hb1
  go_wp2_with fail
  refine (pick_any R 0 _ _ hrd (by omega)).mono ?_
  rintro e w2 ⟨p, ⟨hp0, hp1⟩, rfl, hpk2⟩
  have hz2 := pick_rowN hz1 hpk2 (by omega)
  have hb2 := opened_below (by omega) hb0 hpk2
  have hs2 := hpk2.2.size
  by_cases hp : p = 0
  · subst hp
    clear hz1 hb0 hrd hp0 hp1
    go_wp2_with fail
    refine (of_any R 1 w2.heap.size 3 3 (fun z => z.size ≤ 8) _ _ (by exact hpk2.1.below ((Below.refl _ _).alloc (Nat.le_refl _) _)) (by omega) (by exact Lits.newN _ _ _ _ rfl) (by
      intro v hv
      simp only [List.mem_cons, List.not_mem_nil, or_false] at hv
      rcases hv with rfl | rfl | rfl
      all_goals exact ⟨_, rfl, by decide⟩) (by omega) (by simp) (by omega) (by omega)).mono ?_
    rintro e w3 ⟨x, hx, rfl, hpk3⟩
    have hx8 : x.size ≤ 8 := hx
    have hz3 := pick_rowN (heap_alloc_keep hz2 _) hpk3 (by omega)
    have hb3 := opened_below (by omega) (hb2.alloc hb2.size _) hpk3
    have hs3 := hpk3.2.size
    have hs3' : w2.heap.size + 1 ≤ w3.heap.size := by simpa using hs3
    have hrd3 := hpk3.1
    clear hz2 hb2 hpk2 hpk3
    go_wp2_with fail
    refine (specTextNode_a x w3 (by omega)).mono ?_
    rintro e w4 ⟨rfl, hb4⟩
    have hz4 := (hb4.block _ (row_lt hz3)).trans hz3
    have hbb4 := hb3.trans (hb4.mono hb3.size)
    have hrd4 := hrd3.below hb4
    have hs4 := hb4.size
    have hl := textN_lists x
    have hds := textN_size x
    unfold ndV
    generalize textN x = n0 at *
    clear hb4 hb3 hz3 hrd3
    have hpl : n0.ptrs.length = 0 := by rw [hl.1]; rfl
    have hil : n0.items.length = 0 := by rw [hl.2]; rfl
    simp only [hpl, hil]
    go_wp2_with fail
    have hz5 := heap_alloc_keep hz4 (.cells #[.int .i64 n0.kind, .string n0.data, .slice none 0 0, .int .i64 n0.size, .int .i64 n0.count, .slice none 0 0] nodeT)
    have hx5 := heap_alloc_new w4 (.cells #[.int .i64 n0.kind, .string n0.data, .slice none 0 0, .int .i64 n0.size, .int .i64 n0.count, .slice none 0 0] nodeT)
    have hb5 := hbb4.alloc hbb4.size (.cells #[.int .i64 n0.kind, .string n0.data, .slice none 0 0, .int .i64 n0.size, .int .i64 n0.count, .slice none 0 0] nodeT)
    refine (pick_any R 2 _ _ (hrd4.below ((Below.refl _ _).alloc (Nat.le_refl _) _)) (by omega)).mono ?_
    rintro e w6 ⟨q, ⟨hq0, hq1⟩, rfl, hpk6⟩
    have hz6 := pick_rowN hz5 hpk6 (by omega)
    have hx6 := pick_rowN hx5 hpk6 (by omega)
    have hb6 := opened_below (by omega) hb5 hpk6
    have hs6 := hpk6.2.size
    have hrd6 := hpk6.1
    clear hz4 hbb4 hrd4 hz5 hx5 hb5 hpk6
    by_cases hq : q = 0
    · subst hq
      obtain ⟨c0, c1, c2, c3, c4, c5⟩ := cells6 hx6
      go_wp2_with fail
      refine (l13Cut_b R 3 n0.data _ hrd6 (by omega) (by omega)).mono ?_
      rintro e w7 ⟨u, hu, rfl, hpk7⟩
      have hu1 : u.size ≤ n0.data.size + 1 := hu
      have hz7 := pick_rowN hz6 hpk7 (by omega)
      have hx7 := pick_rowN hx6 hpk7 (by omega)
      have hb7 := opened_below (by omega) hb6 hpk7
      have hs7 := hpk7.2.size
      clear c0 c1 c2 c3 c4 c5 hz6 hx6 hb6 hrd6
      have hx8r := row_setN (row_setN hx7 1 (.string u)) 4 (.int .i64 (u.size : Int))
      have hz8 : ((w7.setCell ⟨w4.heap.size, 1, none⟩ (.string u)).setCell ⟨w4.heap.size, 4, none⟩ (.int .i64 (u.size : Int))).heap[w.heap.size]? = some (.cells #[.int .i64 0, .string { data := #[] }, .slice none 0 0, .int .i64 0, .int .i64 0, .slice none 0 0] nodeT (0, 0)) := (Below.heap_setCell _ ⟨w4.heap.size, 4, none⟩ _ w.heap.size (by simp; omega)).trans ((Below.heap_setCell _ ⟨w4.heap.size, 1, none⟩ _ w.heap.size (by simp; omega)).trans hz7)
      have hb8 : Below w.heap.size w ((w7.setCell ⟨w4.heap.size, 1, none⟩ (.string u)).setCell ⟨w4.heap.size, 4, none⟩ (.int .i64 (u.size : Int))) := (hb7.setCell (p := ⟨w4.heap.size, 1, none⟩) (by simp; omega) _).setCell (p := ⟨w4.heap.size, 4, none⟩) (by simp; omega) _
      have HX8 := Lib.hid hx8r
      have HZ8 := Lib.hid hz8
      have HB8 := Lib.hid hb8
      obtain ⟨c0, c1, c2, c3, c4, c5⟩ := cells6 hx7
      obtain ⟨z0, z1, z2, z3, z4, z5⟩ := cells6 hz7
      have cf := row_free hx7
      have zf := row_free hz7
      clear hx7 hz7 hb7 hx8r hz8 hb8
      go_wp2_with fail
      obtain ⟨wf, hwf, hrw, hnf, hbf⟩ := draw_bare n0.kind u n0.size (u.size : Int) (by unfold maxLen; omega) HZ8.out HB8.out
      rw [hwf]
      obtain ⟨e0, e1, e2, e3, e4, e5⟩ := cells6 hrw
      exact bodyPost_ret (v := .agg #[.int .i64 n0.kind, .string u, .slice none 0 0, .int .i64 n0.size, .int .i64 (u.size : Int), .slice none 0 0]) (by simp [results, Try.results29, go_sem, e0, e1, e2, e3, e4, e5]) rfl ⟨.mk n0.kind u [] n0.size (u.size : Int) [], noHd, rfl, hnf, by show u.size + 0 + 0 ≤ _; omega, fun _ => by show u.size ≤ 1592; omega, hbf⟩
    · have hqb : (q == 0) = false := by simpa using hq
      have hb7 := hb6
      obtain ⟨c0, c1, c2, c3, c4, c5⟩ := cells6 hx6
      obtain ⟨z0, z1, z2, z3, z4, z5⟩ := cells6 hz6
      have zf := row_free hz6
      have HZ8 := Lib.hid hz6
      have HB8 := Lib.hid hb6
      clear hz6 hx6 hb6 hb7 hrd6
      go_wp2_with fail
      obtain ⟨wf, hwf, hrw, hnf, hbf⟩ := draw_bare n0.kind n0.data n0.size n0.count (by unfold maxLen; omega) HZ8.out HB8.out
      rw [hwf]
      obtain ⟨e0, e1, e2, e3, e4, e5⟩ := cells6 hrw
      exact bodyPost_ret (v := .agg #[.int .i64 n0.kind, .string n0.data, .slice none 0 0, .int .i64 n0.size, .int .i64 n0.count, .slice none 0 0]) (by simp [results, Try.results29, go_sem, e0, e1, e2, e3, e4, e5]) rfl ⟨.mk n0.kind n0.data [] n0.size n0.count [], noHd, rfl, hnf, by show n0.data.size + 0 + 0 ≤ _; omega, fun _ => by show n0.data.size ≤ 1592; omega, hbf⟩
  · have hpb : (p == 0) = false := by simpa using hp
    clear hz1 hb0 hrd
    go_wp2_with fail
    refine (l13AnyNode_any R 1 _ hpk2.1 (by omega)).mono ?_
    rintro e w3 ⟨n, hh, rfl, hn, ht, hp3⟩
    have hb3 := opened_below (by omega) hb2 hp3
    have hz3 := pick_rowN hz2 hp3 (by omega)
    have hn3 := hn.from_ (show w.heap.size + 1 ≤ w2.heap.size by omega)
    obtain ⟨z0, z1, z2, z3, z4, z5⟩ := cells6 hz3
    have zf := row_free hz3
    clear hb2 hp3 hz2 hpk2 hn
    go_wp2_with fail
    obtain ⟨wf, hwf, hrw, hnf, hbf⟩ := draw_fin hz3 hn3 hb3
    rw [hwf]
    obtain ⟨e0, e1, e2, e3, e4, e5⟩ := cells6 hrw
    exact bodyPost_ret (v := .agg #[.int .i64 n.kind, .string n.data, .slice hh.A n.ptrs.length hh.a, .int .i64 n.size, .int .i64 n.count, .slice hh.B n.items.length hh.b]) (by simp [results, Try.results29, go_sem, e0, e1, e2, e3, e4, e5]) rfl ⟨n, hh, rfl, hnf, ht.1, ht.2.2, hbf⟩
end Go.Proofs.Ytabipkpgmlmkcaa
