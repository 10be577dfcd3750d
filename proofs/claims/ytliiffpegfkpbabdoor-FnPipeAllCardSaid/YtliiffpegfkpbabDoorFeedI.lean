/- The program's steps of a pipe that is fed. -/
import Derived.Test.YtliiffpegfkpbabDoorFeed
import Derived.Test.YtliiffpegfkpbabDoorMark
import Derived.Laws.EntriesVeiled
namespace Go.Proofs.YtliiffpegfkpbabDoor
open Go.RowKit
theorem rowSet {w : World} {g : Nat} {cs : Array Value} {T : TypeId} (h : w.heap[g]? = some (.cells cs T (0, 0))) (i : Nat) (u : Value) : (w.setCell ⟨g, i, none⟩ u).heap[g]? = some (.cells (cs.setIfInBounds i u) T (0, 0)) := by
  simp [World.setCell, Array.getElem?_modify, h]
theorem Fd.set0 {w : World} {g : Nat} {L M : ByteArray} {k : Bool} {told st : Value} (h : Fd w g L k told st) : Fd (w.setCell ⟨g, 0, none⟩ (.string M)) g M k told st := rowSet h 0 _
theorem Fd.set1 {w : World} {g : Nat} {L : ByteArray} {k j : Bool} {told st : Value} (h : Fd w g L k told st) : Fd (w.setCell ⟨g, 1, none⟩ (.bool j)) g L j told st := rowSet h 1 _
theorem Fd.set2 {w : World} {g : Nat} {L : ByteArray} {k : Bool} {told tl st : Value} (h : Fd w g L k told st) : Fd (w.setCell ⟨g, 2, none⟩ tl) g L k tl st := rowSet h 2 _
theorem Fd.set3 {w : World} {g : Nat} {L : ByteArray} {k : Bool} {told st s : Value} (h : Fd w g L k told st) : Fd (w.setCell ⟨g, 3, none⟩ s) g L k told s := rowSet h 3 _
theorem bel_set {B g i : Nat} {w0 w : World} (h : Below B w0 w) (hg : B ≤ g) (v : Value) : Below B w0 (w.setCell ⟨g, i, none⟩ v) := h.setCell (p := ⟨g, i, none⟩) hg v
set_option maxHeartbeats 1000000 in
set_option maxRecDepth 100000 in
theorem fbro_any (g : Nat) (L : ByteArray) (k : Bool) (told st : Value) (q : List Inn) (w : World) (h : Fd w g L k told st) (hS : SS w (g + 1) told q) :
    Calls Tryd.prog 45 #[.pointer (some ⟨g, 0, none⟩)] w fun e w' => e = .returned (.tuple #[]) ∧ Fd w' g ⟨#[]⟩ true told .nilFunc ∧ SS w' (g + 1) told q ∧ Below g w w' := by
  have HF := Lib.hid h
  have HS := Lib.hid hS
  obtain ⟨c0, c1, c2, c3⟩ := h.cells
  have zf := row_free (show w.heap[g]? = some (.cells #[.string L, .bool k, told, st] 72 (0, 0)) from h)
  clear h hS
  go_enter Tryd.func45, Tryd.ntmps45
  go_wp2
  go_end0
  exact ⟨rfl, HF.out.set0.set1.set3, ((HS.out.store (Nat.lt_succ_self _)).store (Nat.lt_succ_self _)).store (Nat.lt_succ_self _), bel_set (bel_set (bel_set (Below.refl _ _) (Nat.le_refl _) _) (Nat.le_refl _) _) (Nat.le_refl _) _⟩
/-- a frame is put behind those that were told. -/
theorem append_feed {ops : Array Oper} {rest : List Oper} {o : Oper} {a : Act} {Q : Exit → Act → World → Prop} (hgd : o.guard = none) (s x : Operand)
    (ho : o.op = .call { callee := .builtin .append, args := #[s, x], argTypes := #[34, 34] })
    (g H ln cp : Nat) (L : ByteArray) (told : Value) (A : Option Addr) (ss : List ByteArray) (q : List Inn) (w1 : World) (hs : a.eval s = told) (hx : a.eval x = .slice (some ⟨w1.heap.size, 0, none⟩) 1 1)
    (hF : Fd w1 g L false told (fNxt g)) (hS : SS w1 (g + 1) told q) (hH : g + 1 ≤ H) (hib : ∀ b ∈ ibs q, b < H) (hvb : ∀ b, told.ownBlock = some b → b < H) (hl : ss.length = ln)
    (hO : w1.ownsRow H 9 1 (.slice A ln cp) ln (ss.map Value.string)) (hq : q.length ≤ 10000)
    (h : ∀ A2 cp2 wn, Hid (Fd wn g L false told (fNxt g)) → wn.cell? ⟨g, 0, none⟩ = some (.string L) → wn.cell? ⟨g, 2, none⟩ = some told → wn.cell? ⟨g, 3, none⟩ = some (fNxt g) → (∀ i, wn.frozen? ⟨g, i, none⟩ = false) →
      Hid (SS wn (g + 1) (.slice A2 (q.length + 1) cp2) (q ++ [(.slice A ln cp, ss)])) → Hid (Below (g + 1) w1 wn) → wpList Tryd.prog ops Q rest (a.put o.dst (.slice A2 (q.length + 1) cp2)) wn) :
    wpList Tryd.prog ops Q (o :: rest) a (w1.alloc (.cells #[.slice A ln cp] 23)) := by
  obtain ⟨i0, hi, hz0, hz1, hz2⟩ := info_parts infoStrs
  have hlt1 := row_lt (show w1.heap[g]? = some (.cells #[.string L, .bool false, told, fNxt g] 72 (0, 0)) from hF)
  have hvg : ∀ b, told.ownBlock = some b → g + 1 ≤ b := fun b e => (hS.out.lt b e).1
  refine wpList_append_own_at _ hgd s x 34 ho (g + 1) 23 i0 (.slice none 0 0) 1 24 Tryd.underlying34 hi hz0 hz1 hz2 rfl (by decide) told _ _ hs (hS.out.alloc _) ⟨w1.heap.size, 0, none⟩ 1 1 [.slice A ln cp] hx rfl (cell_one_new _ _ _) (by simp [Value.oneCell']) (by unfold maxLen; omega) (by omega) (by simp <;> omega) ?_
  intro v' wn hown' hgrow _ hat
  obtain ⟨A2, cp2, rfl⟩ := own_shape hown'
  have hFn : Fd wn g L false told (fNxt g) := (hgrow.block g (by simp; omega) (fun e => by have := hvg g e.symm; omega)).trans ((heap_alloc_old w1 _ hlt1).trans hF)
  obtain ⟨k0, _, k2, k3⟩ := hFn.cells
  exact h A2 cp2 wn (Lib.hid hFn) k0 k2 k3 (row_free (show wn.heap[g]? = some (.cells #[.string L, .bool false, told, fNxt g] 72 (0, 0)) from hFn))
    (Lib.hid ((hS.below ((Below.refl _ _).alloc (Nat.le_refl _) _)).next (r := (.slice A ln cp, ss)) (by rw [hl]; exact hO.alloc _) hH hib hvb hown' hgrow hat))
    (Lib.hid (((Below.refl _ w1).alloc (by omega) _).grown hgrow (by simp; omega) (fun k hk => hvg k hk)))
/-- what a step does. -/
def NxtP (g : Nat) (L : ByteArray) (told : Value) (q : List Inn) (w : World) (e : Ending) (w' : World) : Prop :=
  e = .returned (.tuple #[]) ∧ Below g w w' ∧
  ((fg L).1 < 0 ∧ Fd w' g L false told (fBro g) ∧ SS w' (g + 1) told q ∨
   (fg L).1 = 0 ∧ Fd w' g L false told .nilFunc ∧ SS w' (g + 1) told q ∨
   ∃ (n : Nat) (tl v : Value), (fg L).1 = (n : Int) ∧ 0 < n ∧ n ≤ L.size ∧ Fd w' g (L.extract n L.size) false tl (fNxt g) ∧ SS w' (g + 1) tl (q ++ [(v, (fg L).2)]))
set_option maxHeartbeats 4000000 in
set_option maxRecDepth 100000 in
theorem fnxt_any (g : Nat) (L : ByteArray) (told : Value) (q : List Inn) (w : World) (h : Fd w g L false told (fNxt g)) (hS : SS w (g + 1) told q) (hL : L.size ≤ 1099511627776) (hq : q.length ≤ 10000) :
    Calls Tryd.prog 44 #[.pointer (some ⟨g, 0, none⟩)] w (NxtP g L told q w) := by
  have hpost : ∃ P : Ending → World → Prop, P = NxtP g L told q w := ⟨_, rfl⟩
  obtain ⟨P, hP⟩ := hpost
  rw [← hP]
  have HP := Lib.hid hP
  clear hP
  have hlt := row_lt (show w.heap[g]? = some (.cells #[.string L, .bool false, told, fNxt g] 72 (0, 0)) from h)
  have HF := Lib.hid h
  have HS := Lib.hid hS
  obtain ⟨c0, c1, c2, c3⟩ := h.cells
  have HI : Hid (∀ w : World, Calls Tryd.prog 13 #[.string L] w (FG L w)) := Lib.hid (fun w => implFrameGet_any L w hL)
  clear h hS
  obtain ⟨c, hc⟩ : ∃ c, (fg L).1 = c := ⟨_, rfl⟩
  have HC := Lib.hid hc
  have hcase : c < 0 ∨ c = 0 ∨ 0 < c := by omega
  rcases hcase with h1 | h1 | h1
  · clear hc
    have h2 : ¬ 0 < c := by omega
    go_enter Tryd.func44, Tryd.ntmps44
    go_wp2_with fail
    refine (HI.out _).mono ?_
    rintro e w1 ⟨v, rfl, hown, hb1⟩
    rw [HC.out]
    have HF1 := Lib.hid (HF.out.below hb1)
    have HS1 := Lib.hid (HS.out.below hb1)
    have HB1 := Lib.hid (hb1.mono (Nat.le_of_lt hlt))
    obtain ⟨d0, d1, d2, d3⟩ := HF1.out.cells
    have zf := row_free (show w1.heap[g]? = some (.cells #[.string L, .bool false, told, fNxt g] 72 (0, 0)) from HF1.out)
    clear hown hb1 c0 c1 c2 c3
    go_wp2
    go_end0
    rw [HP.out]
    exact ⟨rfl, bel_set HB1.out (Nat.le_refl _) _, .inl ⟨by rw [HC.out]; exact h1, HF1.out.set3, HS1.out.store (Nat.lt_succ_self _)⟩⟩
  · subst h1
    clear hc
    go_enter Tryd.func44, Tryd.ntmps44
    go_wp2_with fail
    refine (HI.out _).mono ?_
    rintro e w1 ⟨v, rfl, hown, hb1⟩
    rw [HC.out]
    have HF1 := Lib.hid (HF.out.below hb1)
    have HS1 := Lib.hid (HS.out.below hb1)
    have HB1 := Lib.hid (hb1.mono (Nat.le_of_lt hlt))
    obtain ⟨d0, d1, d2, d3⟩ := HF1.out.cells
    have zf := row_free (show w1.heap[g]? = some (.cells #[.string L, .bool false, told, fNxt g] 72 (0, 0)) from HF1.out)
    clear hown hb1 c0 c1 c2 c3
    go_wp2
    go_end0
    rw [HP.out]
    exact ⟨rfl, bel_set HB1.out (Nat.le_refl _) _, .inr (.inl ⟨HC.out, HF1.out.set3, HS1.out.store (Nat.lt_succ_self _)⟩)⟩
  · obtain ⟨n, hn, h8, hle⟩ := fg_whole (s := L) (by omega)
    obtain rfl : c = (n : Int) := by omega
    clear hc hn
    obtain ⟨i0, hi, hz0, hz1, hz2⟩ := info_parts infoStrs
    go_enter Tryd.func44, Tryd.ntmps44
    go_wp2_with fail
    refine (HI.out _).mono ?_
    rintro e w1 ⟨v, rfl, hown, hb1⟩
    rw [HC.out]
    obtain ⟨A, cp, rfl⟩ := own_shape hown
    have HF1 := Lib.hid (HF.out.below hb1)
    have HS1 := Lib.hid (HS.out.below hb1)
    have HB1 := Lib.hid (hb1.mono (Nat.le_of_lt hlt))
    have HO := Lib.hid hown
    have hsz1 := hb1.size
    obtain ⟨d0, d1, d2, d3⟩ := HF1.out.cells
    have zf := row_free (show w1.heap[g]? = some (.cells #[.string L, .bool false, told, fNxt g] 72 (0, 0)) from HF1.out)
    have hlt1 := row_lt (show w1.heap[g]? = some (.cells #[.string L, .bool false, told, fNxt g] 72 (0, 0)) from HF1.out)
    clear hown hb1 c0 c1 c2 c3
    generalize hln : (fg L).2.length = ln at HO ⊢
    have HLN := Lib.hid hln
    clear hln
    have HIB : Hid (∀ b ∈ ibs q, b < w.heap.size) := Lib.hid (fun b hb => (HS.out.ltI b hb).2)
    have HVB : Hid (∀ b, told.ownBlock = some b → g + 1 ≤ b ∧ b < w.heap.size) := Lib.hid (fun b hb => HS.out.out.lt b hb)
    have HQL := Lib.hid hq
    go_wp2_with (at_builtin; go_must (refine append_feed rfl (.tmp 23) (.tmp 25) rfl g w.heap.size ln cp L told A (fg L).2 q w1 rfl rfl HF1.out HS1.out hlt HIB.out (fun b hb => (HVB.out b hb).2) HLN.out HO.out hq ?_); intro A2 cp2 wn HFN k0 k2 k3 zn HSN HBN)
    go_end0
    rw [HP.out]
    exact ⟨rfl, bel_set (bel_set (HB1.out.trans (HBN.out.mono (Nat.le_succ _))) (Nat.le_refl _) _) (Nat.le_refl _) _, .inr (.inr ⟨n, _, _, HC.out, by omega, hle, HFN.out.set2.set0, (HSN.out.store (Nat.lt_succ_self _)).store (Nat.lt_succ_self _)⟩)⟩
end Go.Proofs.YtliiffpegfkpbabDoor
