/- Texts of the proof of the law FnCanonPut, side by side: part 11. -/
import Derived.Deep.RegionLaw
import Derived.Deep.RegionWith
import Derived.BigQuiet
import Derived.Test.YtbijfkpilncclaaGreatMCanonPut00
import Derived.Test.YtbijfkpilncclaaGreatMCanonPut01
import Derived.Test.YtbijfkpilncclaaGreatMCanonPut02
import Derived.Test.YtbijfkpilncclaaGreatMCanonPut03
import Derived.Test.YtbijfkpilncclaaGreatMCanonPut04
import Derived.Test.YtbijfkpilncclaaGreatMCanonPut05
import Derived.Test.YtbijfkpilncclaaGreatMCanonPut06
import Derived.Test.YtbijfkpilncclaaGreatMCanonPut07
import Derived.Test.YtbijfkpilncclaaGreatMCanonPut08
import Derived.Test.YtbijfkpilncclaaGreatMCanonPut09
import Derived.Test.YtbijfkpilncclaaGreatMCanonPut10
namespace Go.Proofs.YtbijfkpilncclaaGreat
open Go.RowKit Go.Deep
def canX (n : Nd) : Nd := if nodeOk n = true then canN n else noneNd
set_option maxHeartbeats 8000000 in
set_option maxRecDepth 100000 in
theorem implCanon_a (m : Nat) (n : Nd) (h : Hd) (w : World) (S : Nat → Prop) (hn : NdAt w S m n h) (ht : totN m n ≤ 2000000) :
    Calls Tryz.prog 35 #[.agg #[.int .i64 n.kind, .string n.data, .slice h.A n.ptrs.length h.a, .int .i64 n.size, .int .i64 n.count, .slice h.B n.items.length h.b]] w (NewO (m + 1) (canX n) w) := by
  have HO : Hid (∀ W : World, Below w.heap.size w W → Calls Tryz.prog 33 #[.agg #[.int .i64 n.kind, .string n.data, .slice h.A n.ptrs.length h.a, .int .i64 n.size, .int .i64 n.count, .slice h.B n.items.length h.b]] W fun e w' => e = .returned (.bool (nodeOk n)) ∧ Below W.heap.size W w') := Lib.hid fun W hW => implNodeOk_a m n h W S (hn.below hW) ht
  have HF : Hid (nodeOk n = true → ∀ W : World, Below w.heap.size w W → Calls Tryz.prog 74 #[.agg #[.int .i64 n.kind, .string n.data, .slice h.A n.ptrs.length h.a, .int .i64 n.size, .int .i64 n.count, .slice h.B n.items.length h.b], .func (.func 74) #[] #[]] W (NewO (m + 1) (canN n) W)) := Lib.hid fun hok W hW => foN_any m n h W S (hn.below hW) hok (by rw [← totN_siz hn]; exact ht)
  have hb0 : Below w.heap.size w ((w.alloc (.cells #[.int .i64 n.kind, .string n.data, .slice h.A n.ptrs.length h.a, .int .i64 n.size, .int .i64 n.count, .slice h.B n.items.length h.b] nodeT)).alloc (.cells #[.int .i64 0, .string { data := #[] }, .slice none 0 0, .int .i64 0, .int .i64 0, .slice none 0 0] nodeT)) := ((Below.refl _ w).alloc (Nat.le_refl _) _).alloc (by simp) _
  have hx0 : ((w.alloc (.cells #[.int .i64 n.kind, .string n.data, .slice h.A n.ptrs.length h.a, .int .i64 n.size, .int .i64 n.count, .slice h.B n.items.length h.b] nodeT)).alloc (.cells #[.int .i64 0, .string { data := #[] }, .slice none 0 0, .int .i64 0, .int .i64 0, .slice none 0 0] nodeT)).heap[w.heap.size]? = some (.cells #[.int .i64 n.kind, .string n.data, .slice h.A n.ptrs.length h.a, .int .i64 n.size, .int .i64 n.count, .slice h.B n.items.length h.b] nodeT (0, 0)) := heap_alloc_keep (heap_alloc_new w _) _
  have hz0 : ((w.alloc (.cells #[.int .i64 n.kind, .string n.data, .slice h.A n.ptrs.length h.a, .int .i64 n.size, .int .i64 n.count, .slice h.B n.items.length h.b] nodeT)).alloc (.cells #[.int .i64 0, .string { data := #[] }, .slice none 0 0, .int .i64 0, .int .i64 0, .slice none 0 0] nodeT)).heap[w.heap.size + 1]? = some (.cells #[.int .i64 0, .string { data := #[] }, .slice none 0 0, .int .i64 0, .int .i64 0, .slice none 0 0] nodeT (0, 0)) := by have := heap_alloc_new (w.alloc (.cells #[.int .i64 n.kind, .string n.data, .slice h.A n.ptrs.length h.a, .int .i64 n.size, .int .i64 n.count, .slice h.B n.items.length h.b] nodeT)) (.cells #[.int .i64 0, .string { data := #[] }, .slice none 0 0, .int .i64 0, .int .i64 0, .slice none 0 0] nodeT); rwa [show (w.alloc (.cells #[.int .i64 n.kind, .string n.data, .slice h.A n.ptrs.length h.a, .int .i64 n.size, .int .i64 n.count, .slice h.B n.items.length h.b] nodeT)).heap.size = w.heap.size + 1 by simp] at this
  have hs0 : ((w.alloc (.cells #[.int .i64 n.kind, .string n.data, .slice h.A n.ptrs.length h.a, .int .i64 n.size, .int .i64 n.count, .slice h.B n.items.length h.b] nodeT)).alloc (.cells #[.int .i64 0, .string { data := #[] }, .slice none 0 0, .int .i64 0, .int .i64 0, .slice none 0 0] nodeT)).heap.size = w.heap.size + 2 := by simp
  have HB0 := Lib.hid hb0
  have HX0 := Lib.hid hx0
  have HZ0 := Lib.hid hz0
  obtain ⟨Z0, hZ0⟩ : ∃ Z0, Z0 = canX n := ⟨_, rfl⟩
  rw [← hZ0]
  have HZE : Hid (Z0 = if nodeOk n = true then canN n else noneNd) := Lib.hid hZ0
  clear hb0 hx0 hz0 hn ht hZ0
  unfold NewO at HF
  go_enter Tryz.func35, Tryz.ntmps35
  go_wp2_with fail
  generalize ((w.alloc (.cells #[.int .i64 n.kind, .string n.data, .slice h.A n.ptrs.length h.a, .int .i64 n.size, .int .i64 n.count, .slice h.B n.items.length h.b] nodeT)).alloc (.cells #[.int .i64 0, .string { data := #[] }, .slice none 0 0, .int .i64 0, .int .i64 0, .slice none 0 0] nodeT)) = W0 at *
  refine (HO.out _ HB0.out).mono ?_
  rintro e w1 ⟨rfl, hb1⟩
  have HB1 := Lib.hid (HB0.out.trans (hb1.mono HB0.out.size))
  have HX1 := Lib.hid ((hb1.block _ (row_lt HX0.out)).trans HX0.out)
  have HZ1 := Lib.hid ((hb1.block _ (row_lt HZ0.out)).trans HZ0.out)
  have hs1 := hb1.size
  clear hb1 HX0 HZ0 HB0
  cases hok : nodeOk n
  · have hze := HZE.out
    rw [if_neg (by rw [hok]; decide)] at hze
    subst hze
    clear hok HF HO
    obtain ⟨z0, z1, z2, z3, z4, z5⟩ := cells6 HZ1.out
    have zf := row_free HZ1.out
    go_wp2_with fail
    obtain ⟨wf, hwf, hrw, hbf, hkf⟩ := fin6w HZ1.out HB1.out (by omega) (.int .i64 0) (.string ⟨#[]⟩) (.slice none 0 0) (.int .i64 0) (.int .i64 0) (.slice none 0 0)
    rw [hwf]
    obtain ⟨e0, e1, e2, e3, e4, e5⟩ := cells6 hrw
    exact bodyPost_ret (v := .agg #[.int .i64 0, .string ⟨#[]⟩, .slice none 0 0, .int .i64 0, .int .i64 0, .slice none 0 0]) (by simp [results, Tryz.results35, go_sem, e0, e1, e2, e3, e4, e5]) rfl ⟨nHd, [], rfl, OwN.none wf (m + 1), List.nodup_nil, fun b h => (by cases h), hbf⟩
  · have hze := HZE.out
    rw [if_pos hok] at hze
    rw [← hze] at HF
    have HC := Lib.hid (HF.out hok)
    clear HF HO hze hok HZE
    obtain ⟨a0, a1, a2, a3, a4, a5⟩ := cells6 HX1.out
    go_wp2_with fail
    clear a0 a1 a2 a3 a4 a5
    refine (HC.out _ HB1.out).mono ?_
    rintro e w2 ⟨hy, bs, rfl, hown, hnd, hge, hb2⟩
    have HZ2 := Lib.hid ((hb2.block _ (row_lt HZ1.out)).trans HZ1.out)
    have HB2 := Lib.hid (HB1.out.trans (hb2.mono HB1.out.size))
    have HOW := Lib.hid hown
    have HND := Lib.hid (And.intro hnd hge)
    obtain ⟨z0, z1, z2, z3, z4, z5⟩ := cells6 HZ2.out
    have zf := row_free HZ2.out
    clear hb2 hown hnd hge
    go_wp2_with fail
    obtain ⟨wf, hwf, hrw, hbf, hkf⟩ := fin6w HZ2.out HB2.out (by omega) (.int .i64 Z0.kind) (.string Z0.data) (.slice hy.A Z0.ptrs.length hy.a) (.int .i64 Z0.size) (.int .i64 Z0.count) (.slice hy.B Z0.items.length hy.b)
    rw [hwf]
    obtain ⟨e0, e1, e2, e3, e4, e5⟩ := cells6 hrw
    exact bodyPost_ret (v := .agg #[.int .i64 Z0.kind, .string Z0.data, .slice hy.A Z0.ptrs.length hy.a, .int .i64 Z0.size, .int .i64 Z0.count, .slice hy.B Z0.items.length hy.b]) (by simp [results, Tryz.results35, go_sem, e0, e1, e2, e3, e4, e5]) rfl ⟨hy, bs, rfl, HOW.out.frame (fun b hb => hkf b (by have := HND.out.2 b hb; omega)), HND.out.1, fun b hb => by have := HND.out.2 b hb; omega, hbf⟩
end Go.Proofs.YtbijfkpilncclaaGreat

namespace Go.Proofs.YtbijfkpilncclaaGreat
open Go.RowKit
theorem nd_eq (n n' : Nd) : n = n' ↔ n.kind = n'.kind ∧ n.data = n'.data ∧ n.size = n'.size ∧ n.count = n'.count ∧ n.ptrs = n'.ptrs ∧ n.items = n'.items := by
  cases n
  cases n'
  simp only [Nd.mk.injEq, Nd.kind, Nd.data, Nd.size, Nd.count, Nd.ptrs, Nd.items]
  exact ⟨fun h => ⟨h.1, h.2.1, h.2.2.2.1, h.2.2.2.2.1, h.2.2.1, h.2.2.2.2.2⟩, fun h => ⟨h.1, h.2.1, h.2.2.2.2.1, h.2.2.1, h.2.2.2.1, h.2.2.2.2.2⟩⟩
theorem bool_no {b : Bool} {p : Prop} (h : b = true ↔ p) (hp : ¬ p) : b = false := by cases b; rfl; exact absurd (h.1 rfl) hp
theorem iff_true_of {p : Prop} (hp : p) : (true = true ↔ p) := ⟨fun _ => hp, fun _ => rfl⟩
theorem iff_false_of {p : Prop} (hp : ¬ p) : (false = true ↔ p) := ⟨fun h => (by cases h), fun h => absurd h hp⟩
end Go.Proofs.YtbijfkpilncclaaGreat

namespace Go.Proofs.YtbijfkpilncclaaGreat
open Go.RowKit
theorem cell_unique {w : World} {S S' : Nat → Prop} {m m' : Nat} {p : Addr} {n n' : Nd} {h h' : Hd} (ih : ∀ (m' : Nat) (A : Option Addr) (l l' : List Nd), NdsAt w S m A l → NdsAt w S' m' A l' → l.length = l'.length → l = l')
    (c : NdCell w p n h) (c' : NdCell w p n' h') (a : NdAt w S m n h) (a' : NdAt w S' m' n' h') : n = n' := by
  have e0 := Option.some.inj (c.c0.symm.trans c'.c0)
  have e1 := Option.some.inj (c.c1.symm.trans c'.c1)
  have e2 := Option.some.inj (c.c2.symm.trans c'.c2)
  have e3 := Option.some.inj (c.c3.symm.trans c'.c3)
  have e4 := Option.some.inj (c.c4.symm.trans c'.c4)
  have e5 := Option.some.inj (c.c5.symm.trans c'.c5)
  simp only [Value.int.injEq, Value.string.injEq, Value.slice.injEq, true_and] at e0 e1 e2 e3 e4 e5
  have a1 := a'.2.1
  have a2 := a'.2.2
  rw [← e2.1] at a1
  rw [← e5.1] at a2
  exact (nd_eq n n').2 ⟨e0, e1, e3, e4, ih m' h.A n.ptrs n'.ptrs a.2.1 a1 e2.2.1, ih m' h.B n.items n'.items a.2.2 a2 e5.2.1⟩
theorem nds_unique {w : World} {S S' : Nat → Prop} : ∀ (m m' : Nat) (A : Option Addr) (l l' : List Nd), NdsAt w S m A l → NdsAt w S' m' A l' → l.length = l'.length → l = l'
  | 0, m', A, l, l', h, h', hl => by
    obtain rfl := h.zero
    exact (List.eq_nil_of_length_eq_zero hl.symm).symm
  | m + 1, m', A, l, l', h, h', hl => by
    apply List.ext_getElem hl
    intro k h1 h2
    obtain ⟨x, hx, hA, c, n⟩ := h.at_ h1
    obtain ⟨y, hy, hA', c', n'⟩ := (h'.mono (Nat.le_succ m')).at_ h2
    obtain rfl : x = y := by rw [hA] at hA'; exact Option.some.inj hA'
    exact cell_unique (nds_unique m) c c' n n'
theorem nd_unique {w : World} {S S' : Nat → Prop} {m m' : Nat} {p : Addr} {n n' : Nd} {h h' : Hd} (c : NdCell w p n h) (c' : NdCell w p n' h') (a : NdAt w S m n h) (a' : NdAt w S' m' n' h') : n = n' := cell_unique (nds_unique m) c c' a a'
def PartsEq (n n' : Nd) : Prop := n.kind = n'.kind ∧ n.data = n'.data ∧ n.size = n'.size ∧ n.count = n'.count ∧ n.ptrs.length = n'.ptrs.length ∧ n.items.length = n'.items.length
def Within (D : List (Nd × Nd)) (l l' : List Nd) : Prop := ∀ (k : Nat) x y, l[k]? = some x → l'[k]? = some y → (x, y) ∈ D
def Closed (D E : List (Nd × Nd)) : Prop := ∀ d ∈ D, PartsEq d.1 d.2 ∧ Within E d.1.ptrs d.2.ptrs ∧ Within E d.1.items d.2.items
theorem nd_size (n : Nd) : SizeOf.sizeOf n.ptrs + SizeOf.sizeOf n.items < SizeOf.sizeOf n := by
  cases n
  simp only [Nd.ptrs, Nd.items, Nd.mk.sizeOf_spec]
  omega
theorem list_same {D : List (Nd × Nd)} {l l' : List Nd} (hl : l.length = l'.length) (h : Within D l l') (ih : ∀ x ∈ l, ∀ y, (x, y) ∈ D → x = y) : l = l' := by
  apply List.ext_getElem hl
  intro k h1 h2
  exact ih _ (List.getElem_mem h1) _ (h k _ _ (List.getElem?_eq_getElem h1) (List.getElem?_eq_getElem h2))
theorem same_closed {D : List (Nd × Nd)} (hD : Closed D D) : ∀ (N : Nat) (n n' : Nd), SizeOf.sizeOf n ≤ N → (n, n') ∈ D → n = n'
  | 0, n, n', h, _ => by have := nd_size n; omega
  | N + 1, n, n', h, hm => by
    obtain ⟨⟨e0, e1, e2, e3, e4, e5⟩, w1, w2⟩ := hD _ hm
    have hs := nd_size n
    refine (nd_eq n n').2 ⟨e0, e1, e2, e3, list_same e4 w1 fun x hx y hy => ?_, list_same e5 w2 fun x hx y hy => ?_⟩
    · have := List.sizeOf_lt_of_mem hx
      exact same_closed hD N x y (by omega) hy
    · have := List.sizeOf_lt_of_mem hx
      exact same_closed hD N x y (by omega) hy
abbrev PT := (Addr × Addr) × (Nd × Nd)
def Lies (w : World) (S : Nat → Prop) (M : Nat) (t : PT) : Prop := S t.1.1.block ∧ S t.1.2.block ∧ ∃ (h h' : Hd) (m' : Nat), NdCell w t.1.1 t.2.1 h ∧ NdAt w S M t.2.1 h ∧ NdCell w t.1.2 t.2.2 h' ∧ NdAt w S m' t.2.2 h'
theorem Lies.one {w : World} {S : Nat → Prop} {M : Nat} {p : Addr × Addr} {d d' : Nd × Nd} (h : Lies w S M (p, d)) (h' : Lies w S M (p, d')) : d = d' := by
  obtain ⟨_, _, x, y, m', c, a, c', a'⟩ := h
  obtain ⟨_, _, x2, y2, m2', c2, a2, c2', a2'⟩ := h'
  exact Prod.ext (nd_unique c c2 a a2) (nd_unique c' c2' a' a2')
def pts (x y : Addr) : Nat → List Nd → List Nd → List PT
  | i, a :: l, b :: l' => ((x.add (i * 6), y.add (i * 6)), (a, b)) :: pts x y (i + 1) l l'
  | _, _, _ => []
theorem pts_length (x y : Addr) : ∀ (i : Nat) (l l' : List Nd), l.length = l'.length → (pts x y i l l').length = l.length
  | i, [], [], _ => rfl
  | i, a :: l, b :: l', h => by
    simp only [pts, List.length_cons]
    rw [pts_length x y (i + 1) l l' (by simpa using h)]
  | i, [], b :: l', h => by simp at h
  | i, a :: l, [], h => by simp at h
theorem pts_at (x y : Addr) : ∀ (i : Nat) (l l' : List Nd) (k : Nat) (a b : Nd), l[k]? = some a → l'[k]? = some b → (pts x y i l l')[k]? = some ((x.add ((i + k) * 6), y.add ((i + k) * 6)), (a, b))
  | i, u :: l, v :: l', 0, a, b, ha, hb => by
    simp at ha hb
    subst ha hb
    rfl
  | i, u :: l, v :: l', k + 1, a, b, ha, hb => by
    have := pts_at x y (i + 1) l l' k a b (by simpa using ha) (by simpa using hb)
    rw [show i + 1 + k = i + (k + 1) by omega] at this
    simpa [pts] using this
  | i, [], l', k, a, b, ha, hb => by simp at ha
  | i, u :: l, [], k, a, b, ha, hb => by simp at hb
theorem pts_mem (x y : Addr) (i : Nat) (l l' : List Nd) (t : PT) (hl : l.length = l'.length) (h : t ∈ pts x y i l l') : ∃ k, ∃ h1 : k < l.length, ∃ h2 : k < l'.length, t = ((x.add ((i + k) * 6), y.add ((i + k) * 6)), (l[k], l'[k])) := by
  obtain ⟨k, hk0, rfl⟩ := List.mem_iff_getElem.1 h
  have hk := hk0
  rw [pts_length x y i l l' hl] at hk
  refine ⟨k, hk, by omega, ?_⟩
  have := pts_at x y i l l' k _ _ (List.getElem?_eq_getElem hk) (List.getElem?_eq_getElem (by omega))
  rw [List.getElem?_eq_getElem hk0] at this
  exact Option.some.inj this
theorem pts_sum (x y : Addr) (f : Nd → Nat) : ∀ (i : Nat) (l l' : List Nd), ((pts x y i l l').map fun t => f t.2.1).sum ≤ (l.map f).sum
  | i, [], l' => by cases l' <;> simp [pts]
  | i, a :: l, [] => by simp [pts]
  | i, a :: l, b :: l' => by
    have := pts_sum x y f (i + 1) l l'
    simp only [pts, List.map_cons, List.sum_cons]
    omega
def wt (M : Nat) (G : List PT) : Nat := (G.map fun t => 1 + totN M t.2.1).sum
theorem wt_app (M : Nat) (G H : List PT) : wt M (G ++ H) = wt M G + wt M H := by unfold wt; rw [List.map_append, List.sum_append]
theorem wt_len (M : Nat) : ∀ G : List PT, G.length ≤ wt M G
  | [] => Nat.le_refl _
  | t :: G => by
    have := wt_len M G
    show G.length + 1 ≤ (1 + totN M t.2.1) + wt M G
    omega
theorem pts_wt {w : World} {S : Nat → Prop} {M : Nat} {A : Option Addr} {l : List Nd} (x y : Addr) (l' : List Nd) (h : NdsAt w S M A l) : wt M (pts x y 0 l l') ≤ totL M l := by
  have h1 := pts_sum x y (fun n => 1 + totN M n) 0 l l'
  have h2 : (l.map fun n => 1 + totN M n).sum = totL M l := by rw [← totL_succ]; exact totL_eq M A l h
  unfold wt
  omega
theorem NdsAt.blk {w : World} {S : Nat → Prop} {m : Nat} {A : Option Addr} {l : List Nd} (h : NdsAt w S m A l) {k : Nat} (hk : k < l.length) : S (A.getD default).block := by
  obtain ⟨j, rfl⟩ := h.pred hk
  obtain ⟨_, q, rfl, hc, _⟩ := h
  rw [List.length_map] at hk
  rcases hc with rfl | ⟨x, rfl, hs, _⟩
  · cases hk
  · exact hs
theorem pts_within (x y : Addr) (l l' : List Nd) : Within ((pts x y 0 l l').map (·.2)) l l' := by
  intro k a b ha hb
  have := pts_at x y 0 l l' k a b ha hb
  exact List.mem_map.2 ⟨_, List.mem_of_getElem? this, rfl⟩
theorem pts_lies {w : World} {S : Nat → Prop} {M m' : Nat} {A B : Option Addr} {l l' : List Nd} (h : NdsAt w S M A l) (h' : NdsAt w S m' B l') (hl : l.length = l'.length) : ∀ t ∈ pts (A.getD default) (B.getD default) 0 l l', Lies w S M t := by
  intro t ht
  obtain ⟨k, h1, h2, rfl⟩ := pts_mem _ _ _ _ _ _ hl ht
  have s1 := h.blk h1
  have s2 := h'.blk h2
  obtain ⟨j, rfl⟩ := h.pred h1
  obtain ⟨j', rfl⟩ := h'.pred h2
  obtain ⟨x, hx, rfl, c, n⟩ := h.at_ h1
  obtain ⟨y, hy, rfl, c', n'⟩ := h'.at_ h2
  rw [Nat.zero_add]
  exact ⟨by rw [addr_block]; exact s1, by rw [addr_block]; exact s2, hx, hy, j', c, n.mono (Nat.le_succ j), c', n'⟩
structure Inv (w : World) (S : Nat → Prop) (M : Nat) (n0 n0' : Nd) (G : List PT) (K : List (Addr × Addr)) (D : List (Nd × Nd)) : Prop where
  lies : ∀ t ∈ G, Lies w S M t
  keys : ∀ a ∈ K, ∃ d, Lies w S M (a, d) ∧ d ∈ D
  closed : Closed D (D ++ G.map (·.2))
  root : (n0, n0') ∈ D ++ G.map (·.2)
  sound : n0 = n0' → ∀ t ∈ G, t.2.1 = t.2.2
theorem Closed.sub {D E E' : List (Nd × Nd)} (h : Closed D E) (hs : ∀ x ∈ E, x ∈ E') : Closed D E' := fun d hd => ⟨(h d hd).1, fun k x y a b => hs _ ((h d hd).2.1 k x y a b), fun k x y a b => hs _ ((h d hd).2.2 k x y a b)⟩
theorem Inv.end_ {w : World} {S : Nat → Prop} {M : Nat} {n0 n0' : Nd} {K : List (Addr × Addr)} {D : List (Nd × Nd)} (h : Inv w S M n0 n0' [] K D) : n0 = n0' := by
  have hc : Closed D D := h.closed.sub (by simp)
  exact same_closed hc _ n0 n0' (Nat.le_refl _) (by simpa using h.root)
theorem Inv.skip {w : World} {S : Nat → Prop} {M : Nat} {n0 n0' : Nd} {G : List PT} {t : PT} {K : List (Addr × Addr)} {D : List (Nd × Nd)} (h : Inv w S M n0 n0' (G ++ [t]) K D) (hk : t.1 ∈ K) : Inv w S M n0 n0' G K D := by
  obtain ⟨d, h1, h2⟩ := h.keys _ hk
  obtain ⟨p, q⟩ := t
  obtain rfl := (h.lies (p, q) (by simp)).one h1
  have hs : ∀ x ∈ D ++ (G ++ [(p, q)]).map (·.2), x ∈ D ++ G.map (·.2) := by
    intro x hx
    simp only [List.map_append, List.map_cons, List.map_nil, List.mem_append, List.mem_cons, List.not_mem_nil, or_false] at hx ⊢
    rcases hx with hx | hx | hx
    · exact .inl hx
    · exact .inr hx
    · exact .inl (hx ▸ h2)
  exact ⟨fun t ht => h.lies t (List.mem_append_left _ ht), h.keys, h.closed.sub hs, hs _ h.root, fun e t ht => h.sound e t (List.mem_append_left _ ht)⟩
theorem Inv.step {w : World} {S : Nat → Prop} {M : Nat} {n0 n0' : Nd} {G H1 H2 : List PT} {t : PT} {K : List (Addr × Addr)} {D : List (Nd × Nd)} (h : Inv w S M n0 n0' (G ++ [t]) K D) (hp : PartsEq t.2.1 t.2.2)
    (l1 : ∀ u ∈ H1, Lies w S M u) (l2 : ∀ u ∈ H2, Lies w S M u) (i1 : Within (H1.map (·.2)) t.2.1.ptrs t.2.2.ptrs) (i2 : Within (H2.map (·.2)) t.2.1.items t.2.2.items)
    (s1 : t.2.1 = t.2.2 → ∀ u ∈ H1, u.2.1 = u.2.2) (s2 : t.2.1 = t.2.2 → ∀ u ∈ H2, u.2.1 = u.2.2) : Inv w S M n0 n0' (G ++ H1 ++ H2) (K ++ [t.1]) (t.2 :: D) := by
  have hs : ∀ x ∈ D ++ (G ++ [t]).map (·.2), x ∈ (t.2 :: D) ++ (G ++ H1 ++ H2).map (·.2) := by
    intro x hx
    simp only [List.map_append, List.map_cons, List.map_nil, List.mem_append, List.mem_cons, List.not_mem_nil, or_false] at hx ⊢
    rcases hx with hx | hx | hx
    · exact .inl (.inr hx)
    · exact .inr (.inl (.inl hx))
    · exact .inl (.inl hx)
  refine ⟨fun u hu => ?_, fun a ha => ?_, fun d hd => ?_, hs _ h.root, fun e u hu => ?_⟩
  · simp only [List.mem_append] at hu
    rcases hu with (hu | hu) | hu
    · exact h.lies u (List.mem_append_left _ hu)
    · exact l1 u hu
    · exact l2 u hu
  · rcases List.mem_append.1 ha with ha | ha
    · obtain ⟨d, h1, h2⟩ := h.keys a ha
      exact ⟨d, h1, List.mem_cons_of_mem _ h2⟩
    · obtain rfl := List.mem_singleton.1 ha
      exact ⟨t.2, h.lies t (by simp), List.mem_cons_self⟩
  · rcases List.mem_cons.1 hd with rfl | hd
    · refine ⟨hp, fun k x y a b => ?_, fun k x y a b => ?_⟩
      · have := i1 k x y a b
        simp only [List.map_append, List.mem_append]
        exact .inr (.inl (.inr this))
      · have := i2 k x y a b
        simp only [List.map_append, List.mem_append]
        exact .inr (.inr this)
    · exact (h.closed.sub hs) d hd
  · simp only [List.mem_append] at hu
    have ht := h.sound e t (by simp)
    rcases hu with (hu | hu) | hu
    · exact h.sound e u (List.mem_append_left _ hu)
    · exact s1 ht u hu
    · exact s2 ht u hu
theorem pts_same (x y : Addr) {l l' : List Nd} (e : l = l') : ∀ u ∈ pts x y 0 l l', u.2.1 = u.2.2 := by
  subst e
  intro u hu
  obtain ⟨k, h1, h2, rfl⟩ := pts_mem _ _ _ _ _ _ rfl hu
  rfl
end Go.Proofs.YtbijfkpilncclaaGreat

namespace Go.Proofs.YtbijfkpilncclaaGreat
open Go.RowKit Go.Deep
abbrev prT : TypeId := 130
abbrev prsT : TypeId := 131
theorem infoPr : (Tryz.prog.info? prT).map (fun i => (i.zero, i.size, i.bytes)) = some (some (.agg #[.pointer none, .pointer none]), 2, 16) := by kernel_rfl
def rowP : List PT → List Value
  | [] => []
  | t :: r => .pointer (some t.1.1) :: .pointer (some t.1.2) :: rowP r
theorem rowP_length : ∀ G, (rowP G).length = G.length * 2
  | [] => rfl
  | t :: r => by simp only [rowP, List.length_cons, rowP_length r]; omega
theorem rowP_app : ∀ (G H : List PT), rowP (G ++ H) = rowP G ++ rowP H
  | [], _ => rfl
  | t :: r, H => by rw [List.cons_append, rowP, rowP_app r H]; rfl
theorem rowP_one : ∀ (G : List PT), ∀ u ∈ rowP G, u.oneCell' = true
  | [], _, h => by cases h
  | t :: r, u, h => by
    rcases List.mem_cons.1 h with rfl | h
    · rfl
    rcases List.mem_cons.1 h with rfl | h
    · rfl
    exact rowP_one r u h
theorem rowP_last (G : List PT) (t : PT) : (rowP (G ++ [t]))[G.length * 2]? = some (.pointer (some t.1.1)) ∧ (rowP (G ++ [t]))[G.length * 2 + 1]? = some (.pointer (some t.1.2)) := by
  rw [rowP_app]
  have h := rowP_length G
  constructor
  · rw [List.getElem?_append_right (by omega), h, Nat.sub_self]; rfl
  · rw [List.getElem?_append_right (by omega), h, show G.length * 2 + 1 - G.length * 2 = 1 by omega]; rfl
theorem run_append_pts (base base2 : Nat) (ty : TypeId) (w : World) (v v2 : Value) (n : Nat) (xs : List Value) (G : List PT) (hown : w.ownsRow base prT 2 v n xs) (h2 : w.ownsRow base2 prT 2 v2 G.length (rowP G)) (hb : n + G.length ≤ 4000002) (hbase : base ≤ w.heap.size) :
    ∃ v' w', (Builtin.append_ #[prsT, prsT] ty #[v, v2]).run Tryz.prog w = .ok v' w' ∧ w'.ownsRow base prT 2 v' (n + G.length) (xs ++ rowP G) ∧ w.grownBy w' v.ownBlock := by
  obtain ⟨i0, hi, hz0, hz1, hz2⟩ := info_parts infoPr
  have hlen := rowP_length G
  rcases h2.2 with ⟨rfl, h0⟩ | ⟨g, cap, cur, rfl, _, _⟩
  · obtain rfl := List.eq_nil_of_length_eq_zero h0
    exact ⟨v, w, run_append_owned_none (P := Tryz.prog) w base prsT ty prT i0 2 Tryz.underlying131 hi v n xs hown, by simpa [rowP] using hown, ⟨rfl, rfl, rfl, Nat.le_refl _, fun _ _ _ => rfl⟩⟩
  · obtain ⟨v', w', h1, h3, h4, _⟩ := run_append_own (P := Tryz.prog) w base prsT ty prT i0 _ 2 16 Tryz.underlying131 hi hz0 hz1 hz2 rfl (by decide) v n xs hown ⟨g, 0, none⟩ G.length cap (rowP G) hlen (fun j u hj => h2.cells (g := g) rfl j u hj) (rowP_one G) (by unfold maxLen; omega) (by omega) hbase
    exact ⟨v', w', h1, h3, h4⟩
theorem step_append_pts {ops : Array Oper} {o : Oper} {a : Act} {w : World} {K : Act → World → Prop} {Q : Exit → Act → World → Prop} {E : Prop} (hgd : o.guard = none) (s x : Operand)
    (ho : o.op = .call { callee := .builtin .append, args := #[s, x], argTypes := #[prsT, prsT] })
    (base base2 : Nat) (v v2 : Value) (n : Nat) (xs : List Value) (G : List PT) (hs : a.eval s = v) (hx : a.eval x = v2) (hown : w.ownsRow base prT 2 v n xs) (h2 : w.ownsRow base2 prT 2 v2 G.length (rowP G)) (hb : n + G.length ≤ 4000002) (hbase : base ≤ w.heap.size)
    (h : ∀ A' c' w', Hid (w'.ownsRow base prT 2 (.slice A' (n + G.length) c') (n + G.length) (xs ++ rowP G)) → Hid (w.grownBy w' v.ownBlock) → K (a.put o.dst (.slice A' (n + G.length) c')) w') :
    if Region.wanted o (yielded ops a.tmps) = true then Oper.wp Tryz.prog o a w K Q else E := by
  have hw : Region.wanted o (yielded ops a.tmps) = true := by simp [Region.wanted, hgd]
  rw [if_pos hw]
  obtain ⟨v', w', hr, h3, h4⟩ := run_append_pts base base2 o.type w v v2 n xs G hown h2 hb hbase
  obtain ⟨A', c', rfl⟩ := own_sliceN h3
  unfold Oper.wp execOp
  simp only [ho, resolve, invoke, builtin, Sem.run_bind, Sem.run_pure, Result.andThen_ok, List.map_toArray, List.map_cons, List.map_nil, hs, hx, hr]
  exact h A' c' w' h3 h4
theorem own_one (w : World) (t : PT) : (w.alloc (.cells #[.pointer (some t.1.1), .pointer (some t.1.2)] prT)).ownsRow w.heap.size prT 2 (.slice (some ⟨w.heap.size, 0, none⟩) 1 1) ([t] : List PT).length (rowP [t]) :=
  World.ownsRow_lit w #[.pointer (some t.1.1), .pointer (some t.1.2)] 1 (Nat.le_refl _) (by decide) rfl
theorem below_drewP (w : World) (d : Nat) : Below w.heap.size w (redrawn w d) := ⟨rfl, rfl, rfl, Nat.le_refl _, fun _ _ => rfl⟩
def parts6 (n n' : Nd) : Bool := decide (n.kind = n'.kind) && decide (n.data = n'.data) && decide (n.size = n'.size) && decide (n.count = n'.count) && decide (n.ptrs.length = n'.ptrs.length) && decide (n.items.length = n'.items.length)
theorem parts6_iff (n n' : Nd) : parts6 n n' = true ↔ PartsEq n n' := by
  unfold parts6 PartsEq
  simp only [Bool.and_eq_true, decide_eq_true_eq]
  exact ⟨fun ⟨⟨⟨⟨⟨a, b⟩, c⟩, d⟩, e⟩, f⟩ => ⟨a, b, c, d, e, f⟩, fun ⟨a, b, c, d, e, f⟩ => ⟨⟨⟨⟨⟨a, b⟩, c⟩, d⟩, e⟩, f⟩⟩
set_option maxHeartbeats 4000000 in
set_option maxRecDepth 100000 in
theorem sameParts_a (p p' : Addr) (n n' : Nd) (h h' : Hd) (w : World) (c : NdCell w p n h) (c' : NdCell w p' n' h') (_l1 : n.ptrs.length ≤ maxLen) (_l2 : n.items.length ≤ maxLen) (_l3 : n'.ptrs.length ≤ maxLen) (_l4 : n'.items.length ≤ maxLen) :
    Calls Tryz.prog 95 #[.pointer (some p), .pointer (some p')] w fun e w' => e = .returned (.bool (parts6 n n')) ∧ Below w.heap.size w w' := by
  obtain ⟨c0, c1, c2, c3, c4, c5⟩ := c
  obtain ⟨d0, d1, d2, d3, d4, d5⟩ := c'
  unfold maxLen at _l1 _l2 _l3 _l4
  have HQ := Lib.hid (parts6_iff n n')
  generalize parts6 n n' = b at *
  by_cases hx : n.kind = n'.kind
  case neg =>
    have hxb : (n.kind == n'.kind) = false := by simpa using hx
    obtain rfl : b = false := bool_no HQ.out (fun e => hx e.1)
    clear hx
    go_enter Tryz.func95, Tryz.ntmps95
    go_wp2
    simp only [List.append_eq, List.cons_append, List.nil_append]
    go_big_quiet (fail)
    go_wp2
    go_ret
    exact ⟨rfl, below_drewP _ _⟩
  have t0 : (n.kind == n'.kind) = true := by simpa using hx
  have H0 := Lib.hid hx
  clear hx
  by_cases hx : n.data = n'.data
  case neg =>
    have hxb : (n.data.toList == n'.data.toList) = false := by rw [toList_eq]; exact decide_eq_false hx
    obtain rfl : b = false := bool_no HQ.out (fun e => hx e.2.1)
    clear hx
    go_enter Tryz.func95, Tryz.ntmps95
    go_wp2
    simp only [List.append_eq, List.cons_append, List.nil_append]
    go_big_quiet (fail)
    go_wp2
    go_ret
    exact ⟨rfl, below_drewP _ _⟩
  have t1 : (n.data.toList == n'.data.toList) = true := by rw [toList_eq]; exact decide_eq_true hx
  have H1 := Lib.hid hx
  clear hx
  by_cases hx : n.size = n'.size
  case neg =>
    have hxb : (n.size == n'.size) = false := by simpa using hx
    obtain rfl : b = false := bool_no HQ.out (fun e => hx e.2.2.1)
    clear hx
    go_enter Tryz.func95, Tryz.ntmps95
    go_wp2
    simp only [List.append_eq, List.cons_append, List.nil_append]
    go_big_quiet (fail)
    go_wp2
    go_ret
    exact ⟨rfl, below_drewP _ _⟩
  have t2 : (n.size == n'.size) = true := by simpa using hx
  have H2 := Lib.hid hx
  clear hx
  by_cases hx : n.count = n'.count
  case neg =>
    have hxb : (n.count == n'.count) = false := by simpa using hx
    obtain rfl : b = false := bool_no HQ.out (fun e => hx e.2.2.2.1)
    clear hx
    go_enter Tryz.func95, Tryz.ntmps95
    go_wp2
    simp only [List.append_eq, List.cons_append, List.nil_append]
    go_big_quiet (fail)
    go_wp2
    go_ret
    exact ⟨rfl, below_drewP _ _⟩
  have t3 : (n.count == n'.count) = true := by simpa using hx
  have H3 := Lib.hid hx
  clear hx
  by_cases hx : n.ptrs.length = n'.ptrs.length
  case neg =>
    have hxb : ((n.ptrs.length : Int) == (n'.ptrs.length : Int)) = false := by simp; omega
    obtain rfl : b = false := bool_no HQ.out (fun e => hx e.2.2.2.2.1)
    clear hx
    go_enter Tryz.func95, Tryz.ntmps95
    go_wp2
    simp only [List.append_eq, List.cons_append, List.nil_append]
    go_big_quiet (fail)
    go_wp2
    go_ret
    exact ⟨rfl, below_drewP _ _⟩
  have t4 : ((n.ptrs.length : Int) == (n'.ptrs.length : Int)) = true := by simp; omega
  have H4 := Lib.hid hx
  clear hx
  by_cases hx : n.items.length = n'.items.length
  case neg =>
    have hxb : ((n.items.length : Int) == (n'.items.length : Int)) = false := by simp; omega
    obtain rfl : b = false := bool_no HQ.out (fun e => hx e.2.2.2.2.2)
    clear hx
    go_enter Tryz.func95, Tryz.ntmps95
    go_wp2
    simp only [List.append_eq, List.cons_append, List.nil_append]
    go_big_quiet (fail)
    go_wp2
    go_ret
    exact ⟨rfl, below_drewP _ _⟩
  have t5 : ((n.items.length : Int) == (n'.items.length : Int)) = true := by simp; omega
  have H5 := Lib.hid hx
  clear hx
  obtain rfl : b = true := HQ.out.2 ⟨H0.out, H1.out, H2.out, H3.out, H4.out, H5.out⟩
  go_enter Tryz.func95, Tryz.ntmps95
  go_wp2
  go_wp2
  try simp only [List.append_eq, List.cons_append, List.nil_append]
  go_big_quiet (fail)
  go_wp2
  go_ret
  exact ⟨rfl, below_drewP _ _⟩
def PairsP (A B : Option Addr) (l l' : List Nd) (w : World) (e : Ending) (w' : World) : Prop :=
  ∃ v, e = .returned v ∧ w'.ownsRow w.heap.size prT 2 v (pts (A.getD default) (B.getD default) 0 l l').length (rowP (pts (A.getD default) (B.getD default) 0 l l')) ∧ Below w.heap.size w w'
theorem pts_take (x y : Addr) (l l' : List Nd) (hl : l.length = l'.length) (k : Nat) (n n' : Nd) (h : l[k]? = some n) (h' : l'[k]? = some n') : (pts x y 0 l l').take (k + 1) = (pts x y 0 l l').take k ++ [((x.add (k * 6), y.add (k * 6)), (n, n'))] := by
  have hp := pts_length x y 0 l l' hl
  have := pts_at x y 0 l l' k _ _ h h'
  obtain ⟨hk, he⟩ := List.getElem?_eq_some_iff.1 this
  rw [List.take_succ_eq_append_getElem hk, he, Nat.zero_add]
set_option maxHeartbeats 4000000 in
set_option maxRecDepth 100000 in
theorem pairsOf_a (A B : Option Addr) (c c' : Nat) (l l' : List Nd) (w : World) (hA : l = [] ∨ ∃ x, A = some x) (hB : l' = [] ∨ ∃ y, B = some y) (hl : l.length = l'.length) (hm : l.length ≤ 2000000) :
    Calls Tryz.prog 96 #[.slice A l.length c, .slice B l'.length c'] w (PairsP A B l l' w) := by
  have hpl := pts_length (A.getD default) (B.getD default) 0 l l' hl
  have hts : ∀ k n n', l[k]? = some n → l'[k]? = some n' → (pts (A.getD default) (B.getD default) 0 l l').take (k + 1) = (pts (A.getD default) (B.getD default) 0 l l').take k ++ [(((A.getD default).add (k * 6), (B.getD default).add (k * 6)), (n, n'))] := fun k n n' h h' => pts_take _ _ l l' hl k n n' h h'
  rw [← hl]
  have HPL := Lib.hid hpl
  have HTS := Lib.hid hts
  unfold PairsP
  generalize hG : pts (A.getD default) (B.getD default) 0 l l' = G at *
  have HA := Lib.hid hA
  have HBB := Lib.hid hB
  have HL := Lib.hid hl
  clear hG hpl hts hA hB hl
  go_enter Tryz.func96, Tryz.ntmps96
  go_wp2_with fail
  go_loopw [5, 9] (fun v i wr => ∃ k : Nat, i = .int .i64 k ∧ k ≤ l.length ∧ Hid (wr.ownsRow w.heap.size prT 2 v k (rowP (G.take k))) ∧ Hid (Below w.heap.size w wr)) (fun _ i _ => l.length - (intOf i).toNat)
  case atStart => exact ⟨0, rfl, by omega, Lib.hid (World.ownsRow_nil _ _ _ _), Lib.hid (Below.refl _ _)⟩
  case round =>
    obtain ⟨k, rfl, hk, HO, HB⟩ := hrel
    by_cases hlt : k < l.length
    · have hlt' : k < l'.length := by have := HL.out; omega
      obtain ⟨x, rfl⟩ : ∃ x, A = some x := by
        rcases HA.out with h | h
        · subst h; cases hlt
        · exact h
      obtain ⟨y, rfl⟩ : ∃ y, B = some y := by
        rcases HBB.out with h | h
        · subst h; cases hlt'
        · exact h
      obtain ⟨n, hn⟩ : ∃ n, l[k]? = some n := ⟨_, List.getElem?_eq_getElem hlt⟩
      obtain ⟨n', hn'⟩ : ∃ n, l'[k]? = some n := ⟨_, List.getElem?_eq_getElem hlt'⟩
      have htk := HTS.out k n n' hn hn'
      have HRT : Hid (rowP (G.take (k + 1)) = rowP (G.take k) ++ rowP [(((x.add (k * 6)), (y.add (k * 6))), (n, n'))]) := Lib.hid (by rw [htk, rowP_app]; rfl)
      have hwr := HB.out.size
      have hk2 : (k : Int) < (l.length : Int) := by omega
      clear htk hn hn'
      go_wp2_with fail
      go_region_law (first | (refine step_append_pts rfl (.tmp 12) (.tmp 20) rfl w.heap.size wr.heap.size _ (.slice (some ⟨wr.heap.size, 0, none⟩) 1 1) k _ [(((x.add (k * 6)), (y.add (k * 6))), (n, n'))] rfl rfl (HO.out.alloc _) (own_one wr (((x.add (k * 6)), (y.add (k * 6))), (n, n'))) (by simp; omega) (by simp; omega) ?_; intro A4 c4 w4 hown4 hgrow4))
      all_goals
        have HO4 : Hid (w4.ownsRow w.heap.size prT 2 (.slice A4 (k + 1) c4) (k + 1) (rowP (G.take (k + 1)))) := Lib.hid (by rw [HRT.out]; exact hown4.out)
        have HB4 := Lib.hid ((HB.out.alloc HB.out.size _).drew.grown hgrow4.out (by simp; omega) (fun k hk => (HO.out.lt k hk).1))
        clear hown4 hgrow4
        go_wp2
        go_roundw
        case rel => exact ⟨k + 1, by go_num, by omega, HO4, HB4⟩
        case measure => simp [intOf]; omega
    · obtain rfl : k = l.length := by omega
      have HO2 := Lib.hid HO.out
      rw [show G.take l.length = G from List.take_of_length_le (by rw [HPL.out]; exact Nat.le_refl _)] at HO2
      go_wp2
      go_ret
      exact ⟨_, rfl, by rw [HPL.out]; exact HO2.out, HB.out⟩
end Go.Proofs.YtbijfkpilncclaaGreat
