/- Pure facts: what lies at an address is one node alone; pairs of nodes that are closed are the same. No Go text. -/
import Derived.Test.YtfiiopchfmcjdaaNdQn
import Derived.Test.YtfiiopchfmcjdaaNdAllow
namespace Go.Proofs.Ytfiiopchfmcjdaa
open Go.RowKit
theorem cell_unique {w : World} {S S' : Nat → Prop} {m m' : Nat} {p : Addr} {n n' : Nd} {h h' : Hd} (ih : ∀ (m' : Nat) (A : Option Addr) (l l' : List Nd), NdsAt w S m A l → NdsAt w S' m' A l' → l.length = l'.length → l = l')
    (c : NdCell w p n h) (c' : NdCell w p n' h') (a : NdAt w S m n h) (a' : NdAt w S' m' n' h') : n = n' := by
  have e0 := Option.some.inj (c.c0.symm.trans c'.c0)
  have e1 := Option.some.inj (c.c1.symm.trans c'.c1)
  have e2 := Option.some.inj (c.c2.symm.trans c'.c2)
  have e3 := Option.some.inj (c.c3.symm.trans c'.c3)
  have e4 := Option.some.inj (c.c4.symm.trans c'.c4)
  have e5 := Option.some.inj (c.c5.symm.trans c'.c5)
  simp only [Value.int.injEq, Value.string.injEq, Value.slice.injEq, true_and] at e0 e1 e2 e3 e4 e5
  have a1 := a'.2.1
  have a2 := a'.2.2
  rw [← e2.1] at a1
  rw [← e5.1] at a2
  exact (nd_eq n n').2 ⟨e0, e1, e3, e4, ih m' h.A n.ptrs n'.ptrs a.2.1 a1 e2.2.1, ih m' h.B n.items n'.items a.2.2 a2 e5.2.1⟩
theorem nds_unique {w : World} {S S' : Nat → Prop} : ∀ (m m' : Nat) (A : Option Addr) (l l' : List Nd), NdsAt w S m A l → NdsAt w S' m' A l' → l.length = l'.length → l = l'
  | 0, m', A, l, l', h, h', hl => by
    obtain rfl := h.zero
    exact (List.eq_nil_of_length_eq_zero hl.symm).symm
  | m + 1, m', A, l, l', h, h', hl => by
    apply List.ext_getElem hl
    intro k h1 h2
    obtain ⟨x, hx, hA, c, n⟩ := h.at_ h1
    obtain ⟨y, hy, hA', c', n'⟩ := (h'.mono (Nat.le_succ m')).at_ h2
    obtain rfl : x = y := by rw [hA] at hA'; exact Option.some.inj hA'
    exact cell_unique (nds_unique m) c c' n n'
theorem nd_unique {w : World} {S S' : Nat → Prop} {m m' : Nat} {p : Addr} {n n' : Nd} {h h' : Hd} (c : NdCell w p n h) (c' : NdCell w p n' h') (a : NdAt w S m n h) (a' : NdAt w S' m' n' h') : n = n' := cell_unique (nds_unique m) c c' a a'
/-- two nodes are the same but for what is within. -/
def PartsEq (n n' : Nd) : Prop := n.kind = n'.kind ∧ n.data = n'.data ∧ n.size = n'.size ∧ n.count = n'.count ∧ n.ptrs.length = n'.ptrs.length ∧ n.items.length = n'.items.length
def Within (D : List (Nd × Nd)) (l l' : List Nd) : Prop := ∀ (k : Nat) x y, l[k]? = some x → l'[k]? = some y → (x, y) ∈ D
def Closed (D E : List (Nd × Nd)) : Prop := ∀ d ∈ D, PartsEq d.1 d.2 ∧ Within E d.1.ptrs d.2.ptrs ∧ Within E d.1.items d.2.items
theorem nd_size (n : Nd) : SizeOf.sizeOf n.ptrs + SizeOf.sizeOf n.items < SizeOf.sizeOf n := by
  cases n
  simp only [Nd.ptrs, Nd.items, Nd.mk.sizeOf_spec]
  omega
theorem list_same {D : List (Nd × Nd)} {l l' : List Nd} (hl : l.length = l'.length) (h : Within D l l') (ih : ∀ x ∈ l, ∀ y, (x, y) ∈ D → x = y) : l = l' := by
  apply List.ext_getElem hl
  intro k h1 h2
  exact ih _ (List.getElem_mem h1) _ (h k _ _ (List.getElem?_eq_getElem h1) (List.getElem?_eq_getElem h2))
theorem same_closed {D : List (Nd × Nd)} (hD : Closed D D) : ∀ (N : Nat) (n n' : Nd), SizeOf.sizeOf n ≤ N → (n, n') ∈ D → n = n'
  | 0, n, n', h, _ => by have := nd_size n; omega
  | N + 1, n, n', h, hm => by
    obtain ⟨⟨e0, e1, e2, e3, e4, e5⟩, w1, w2⟩ := hD _ hm
    have hs := nd_size n
    refine (nd_eq n n').2 ⟨e0, e1, e2, e3, list_same e4 w1 fun x hx y hy => ?_, list_same e5 w2 fun x hx y hy => ?_⟩
    · have := List.sizeOf_lt_of_mem hx
      exact same_closed hD N x y (by omega) hy
    · have := List.sizeOf_lt_of_mem hx
      exact same_closed hD N x y (by omega) hy
/-- a pair of places, and what lies there. -/
abbrev PT := (Addr × Addr) × (Nd × Nd)
def Lies (w : World) (S : Nat → Prop) (M : Nat) (t : PT) : Prop := S t.1.1.block ∧ S t.1.2.block ∧ ∃ (h h' : Hd) (m' : Nat), NdCell w t.1.1 t.2.1 h ∧ NdAt w S M t.2.1 h ∧ NdCell w t.1.2 t.2.2 h' ∧ NdAt w S m' t.2.2 h'
theorem Lies.below {w w' : World} {S : Nat → Prop} {M : Nat} {t : PT} (h : Lies w S M t) (hb : Below w.heap.size w w') : Lies w' S M t := by
  obtain ⟨s1, s2, x, y, m', c, a, c', a'⟩ := h
  exact ⟨s1, s2, x, y, m', cell_below hb _ _ _ c, a.below hb, cell_below hb _ _ _ c', a'.below hb⟩
theorem Lies.one {w : World} {S : Nat → Prop} {M : Nat} {p : Addr × Addr} {d d' : Nd × Nd} (h : Lies w S M (p, d)) (h' : Lies w S M (p, d')) : d = d' := by
  obtain ⟨_, _, x, y, m', c, a, c', a'⟩ := h
  obtain ⟨_, _, x2, y2, m2', c2, a2, c2', a2'⟩ := h'
  exact Prod.ext (nd_unique c c2 a a2) (nd_unique c' c2' a' a2')
/-- the places of two lists side by side. -/
def pts (x y : Addr) : Nat → List Nd → List Nd → List PT
  | i, a :: l, b :: l' => ((x.add (i * 6), y.add (i * 6)), (a, b)) :: pts x y (i + 1) l l'
  | _, _, _ => []
theorem pts_length (x y : Addr) : ∀ (i : Nat) (l l' : List Nd), l.length = l'.length → (pts x y i l l').length = l.length
  | i, [], [], _ => rfl
  | i, a :: l, b :: l', h => by
    simp only [pts, List.length_cons]
    rw [pts_length x y (i + 1) l l' (by simpa using h)]
  | i, [], b :: l', h => by simp at h
  | i, a :: l, [], h => by simp at h
theorem pts_at (x y : Addr) : ∀ (i : Nat) (l l' : List Nd) (k : Nat) (a b : Nd), l[k]? = some a → l'[k]? = some b → (pts x y i l l')[k]? = some ((x.add ((i + k) * 6), y.add ((i + k) * 6)), (a, b))
  | i, u :: l, v :: l', 0, a, b, ha, hb => by
    simp at ha hb
    subst ha hb
    rfl
  | i, u :: l, v :: l', k + 1, a, b, ha, hb => by
    have := pts_at x y (i + 1) l l' k a b (by simpa using ha) (by simpa using hb)
    rw [show i + 1 + k = i + (k + 1) by omega] at this
    simpa [pts] using this
  | i, [], l', k, a, b, ha, hb => by simp at ha
  | i, u :: l, [], k, a, b, ha, hb => by simp at hb
theorem pts_mem (x y : Addr) (i : Nat) (l l' : List Nd) (t : PT) (hl : l.length = l'.length) (h : t ∈ pts x y i l l') : ∃ k, ∃ h1 : k < l.length, ∃ h2 : k < l'.length, t = ((x.add ((i + k) * 6), y.add ((i + k) * 6)), (l[k], l'[k])) := by
  obtain ⟨k, hk0, rfl⟩ := List.mem_iff_getElem.1 h
  have hk := hk0
  rw [pts_length x y i l l' hl] at hk
  refine ⟨k, hk, by omega, ?_⟩
  have := pts_at x y i l l' k _ _ (List.getElem?_eq_getElem hk) (List.getElem?_eq_getElem (by omega))
  rw [List.getElem?_eq_getElem hk0] at this
  exact Option.some.inj this
theorem pts_sum (x y : Addr) (f : Nd → Nat) : ∀ (i : Nat) (l l' : List Nd), ((pts x y i l l').map fun t => f t.2.1).sum ≤ (l.map f).sum
  | i, [], l' => by cases l' <;> simp [pts]
  | i, a :: l, [] => by simp [pts]
  | i, a :: l, b :: l' => by
    have := pts_sum x y f (i + 1) l l'
    simp only [pts, List.map_cons, List.sum_cons]
    omega
/-- how much is left to be looked at. -/
def wt (M : Nat) (G : List PT) : Nat := (G.map fun t => 1 + totN M t.2.1).sum
theorem wt_app (M : Nat) (G H : List PT) : wt M (G ++ H) = wt M G + wt M H := by unfold wt; rw [List.map_append, List.sum_append]
theorem wt_len (M : Nat) : ∀ G : List PT, G.length ≤ wt M G
  | [] => Nat.le_refl _
  | t :: G => by
    have := wt_len M G
    show G.length + 1 ≤ (1 + totN M t.2.1) + wt M G
    omega
theorem pts_wt {w : World} {S : Nat → Prop} {M : Nat} {A : Option Addr} {l : List Nd} (x y : Addr) (l' : List Nd) (h : NdsAt w S M A l) : wt M (pts x y 0 l l') ≤ totL M l := by
  have h1 := pts_sum x y (fun n => 1 + totN M n) 0 l l'
  have h2 : (l.map fun n => 1 + totN M n).sum = totL M l := by rw [← totL_succ]; exact totL_eq M A l h
  unfold wt
  omega
theorem NdsAt.blk {w : World} {S : Nat → Prop} {m : Nat} {A : Option Addr} {l : List Nd} (h : NdsAt w S m A l) {k : Nat} (hk : k < l.length) : S (A.getD default).block := by
  obtain ⟨j, rfl⟩ := h.pred hk
  obtain ⟨_, q, rfl, hc, _⟩ := h
  rw [List.length_map] at hk
  rcases hc with rfl | ⟨x, rfl, hs, _⟩
  · cases hk
  · exact hs
theorem pts_within (x y : Addr) (l l' : List Nd) : Within ((pts x y 0 l l').map (·.2)) l l' := by
  intro k a b ha hb
  have := pts_at x y 0 l l' k a b ha hb
  exact List.mem_map.2 ⟨_, List.mem_of_getElem? this, rfl⟩
theorem pts_lies {w : World} {S : Nat → Prop} {M m' : Nat} {A B : Option Addr} {l l' : List Nd} (h : NdsAt w S M A l) (h' : NdsAt w S m' B l') (hl : l.length = l'.length) : ∀ t ∈ pts (A.getD default) (B.getD default) 0 l l', Lies w S M t := by
  intro t ht
  obtain ⟨k, h1, h2, rfl⟩ := pts_mem _ _ _ _ _ _ hl ht
  have s1 := h.blk h1
  have s2 := h'.blk h2
  obtain ⟨j, rfl⟩ := h.pred h1
  obtain ⟨j', rfl⟩ := h'.pred h2
  obtain ⟨x, hx, rfl, c, n⟩ := h.at_ h1
  obtain ⟨y, hy, rfl, c', n'⟩ := h'.at_ h2
  rw [Nat.zero_add]
  exact ⟨by rw [addr_block]; exact s1, by rw [addr_block]; exact s2, hx, hy, j', c, n.mono (Nat.le_succ j), c', n'⟩
/-- how the loop stands: G is left, K has been looked at, D is what lies there. -/
structure Inv (w : World) (S : Nat → Prop) (M : Nat) (n0 n0' : Nd) (G : List PT) (K : List (Addr × Addr)) (D : List (Nd × Nd)) : Prop where
  lies : ∀ t ∈ G, Lies w S M t
  keys : ∀ a ∈ K, ∃ d, Lies w S M (a, d) ∧ d ∈ D
  closed : Closed D (D ++ G.map (·.2))
  root : (n0, n0') ∈ D ++ G.map (·.2)
  sound : n0 = n0' → ∀ t ∈ G, t.2.1 = t.2.2
theorem Inv.below {w w' : World} {S : Nat → Prop} {M : Nat} {n0 n0' : Nd} {G : List PT} {K : List (Addr × Addr)} {D : List (Nd × Nd)} (h : Inv w S M n0 n0' G K D) (hb : Below w.heap.size w w') : Inv w' S M n0 n0' G K D :=
  ⟨fun t ht => (h.lies t ht).below hb, fun a ha => by obtain ⟨d, h1, h2⟩ := h.keys a ha; exact ⟨d, h1.below hb, h2⟩, h.closed, h.root, h.sound⟩
theorem Closed.sub {D E E' : List (Nd × Nd)} (h : Closed D E) (hs : ∀ x ∈ E, x ∈ E') : Closed D E' := fun d hd => ⟨(h d hd).1, fun k x y a b => hs _ ((h d hd).2.1 k x y a b), fun k x y a b => hs _ ((h d hd).2.2 k x y a b)⟩
theorem Inv.end_ {w : World} {S : Nat → Prop} {M : Nat} {n0 n0' : Nd} {K : List (Addr × Addr)} {D : List (Nd × Nd)} (h : Inv w S M n0 n0' [] K D) : n0 = n0' := by
  have hc : Closed D D := h.closed.sub (by simp)
  exact same_closed hc _ n0 n0' (Nat.le_refl _) (by simpa using h.root)
theorem Inv.skip {w : World} {S : Nat → Prop} {M : Nat} {n0 n0' : Nd} {G : List PT} {t : PT} {K : List (Addr × Addr)} {D : List (Nd × Nd)} (h : Inv w S M n0 n0' (G ++ [t]) K D) (hk : t.1 ∈ K) : Inv w S M n0 n0' G K D := by
  obtain ⟨d, h1, h2⟩ := h.keys _ hk
  obtain ⟨p, q⟩ := t
  obtain rfl := (h.lies (p, q) (by simp)).one h1
  have hs : ∀ x ∈ D ++ (G ++ [(p, q)]).map (·.2), x ∈ D ++ G.map (·.2) := by
    intro x hx
    simp only [List.map_append, List.map_cons, List.map_nil, List.mem_append, List.mem_cons, List.not_mem_nil, or_false] at hx ⊢
    rcases hx with hx | hx | hx
    · exact .inl hx
    · exact .inr hx
    · exact .inl (hx ▸ h2)
  exact ⟨fun t ht => h.lies t (List.mem_append_left _ ht), h.keys, h.closed.sub hs, hs _ h.root, fun e t ht => h.sound e t (List.mem_append_left _ ht)⟩
theorem Inv.step {w : World} {S : Nat → Prop} {M : Nat} {n0 n0' : Nd} {G H1 H2 : List PT} {t : PT} {K : List (Addr × Addr)} {D : List (Nd × Nd)} (h : Inv w S M n0 n0' (G ++ [t]) K D) (hp : PartsEq t.2.1 t.2.2)
    (l1 : ∀ u ∈ H1, Lies w S M u) (l2 : ∀ u ∈ H2, Lies w S M u) (i1 : Within (H1.map (·.2)) t.2.1.ptrs t.2.2.ptrs) (i2 : Within (H2.map (·.2)) t.2.1.items t.2.2.items)
    (s1 : t.2.1 = t.2.2 → ∀ u ∈ H1, u.2.1 = u.2.2) (s2 : t.2.1 = t.2.2 → ∀ u ∈ H2, u.2.1 = u.2.2) : Inv w S M n0 n0' (G ++ H1 ++ H2) (K ++ [t.1]) (t.2 :: D) := by
  have hs : ∀ x ∈ D ++ (G ++ [t]).map (·.2), x ∈ (t.2 :: D) ++ (G ++ H1 ++ H2).map (·.2) := by
    intro x hx
    simp only [List.map_append, List.map_cons, List.map_nil, List.mem_append, List.mem_cons, List.not_mem_nil, or_false] at hx ⊢
    rcases hx with hx | hx | hx
    · exact .inl (.inr hx)
    · exact .inr (.inl (.inl hx))
    · exact .inl (.inl hx)
  refine ⟨fun u hu => ?_, fun a ha => ?_, fun d hd => ?_, hs _ h.root, fun e u hu => ?_⟩
  · simp only [List.mem_append] at hu
    rcases hu with (hu | hu) | hu
    · exact h.lies u (List.mem_append_left _ hu)
    · exact l1 u hu
    · exact l2 u hu
  · rcases List.mem_append.1 ha with ha | ha
    · obtain ⟨d, h1, h2⟩ := h.keys a ha
      exact ⟨d, h1, List.mem_cons_of_mem _ h2⟩
    · obtain rfl := List.mem_singleton.1 ha
      exact ⟨t.2, h.lies t (by simp), List.mem_cons_self⟩
  · rcases List.mem_cons.1 hd with rfl | hd
    · refine ⟨hp, fun k x y a b => ?_, fun k x y a b => ?_⟩
      · have := i1 k x y a b
        simp only [List.map_append, List.mem_append]
        exact .inr (.inl (.inr this))
      · have := i2 k x y a b
        simp only [List.map_append, List.mem_append]
        exact .inr (.inr this)
    · exact (h.closed.sub hs) d hd
  · simp only [List.mem_append] at hu
    have ht := h.sound e t (by simp)
    rcases hu with (hu | hu) | hu
    · exact h.sound e u (List.mem_append_left _ hu)
    · exact s1 ht u hu
    · exact s2 ht u hu
theorem pts_same (x y : Addr) {l l' : List Nd} (e : l = l') : ∀ u ∈ pts x y 0 l l', u.2.1 = u.2.2 := by
  subst e
  intro u hu
  obtain ⟨k, h1, h2, rfl⟩ := pts_mem _ _ _ _ _ _ rfl hu
  rfl
end Go.Proofs.Ytfiiopchfmcjdaa
