/- Texts of the proof of the law FnPipeBytes, side by side: part 4. -/
import Derived.Laws.EntriesVeiled
import Derived.Test.YtfiiopchfmcjdabDoorMPipeBytes00
import Derived.Test.YtfiiopchfmcjdabDoorMPipeBytes01
import Derived.Test.YtfiiopchfmcjdabDoorMPipeBytes02
import Derived.Test.YtfiiopchfmcjdabDoorMPipeBytes03
/- The program's steps of a pipe that is fed. -/
namespace Go.Proofs.YtfiiopchfmcjdabDoor
open Go.RowKit
theorem rowSet {w : World} {g : Nat} {cs : Array Value} {T : TypeId} (h : w.heap[g]? = some (.cells cs T (0, 0))) (i : Nat) (u : Value) : (w.setCell ⟨g, i, none⟩ u).heap[g]? = some (.cells (cs.setIfInBounds i u) T (0, 0)) := by
  simp [World.setCell, Array.getElem?_modify, h]
theorem Fd.set0 {w : World} {g : Nat} {L M : ByteArray} {k : Bool} {told st : Value} (h : Fd w g L k told st) : Fd (w.setCell ⟨g, 0, none⟩ (.string M)) g M k told st := rowSet h 0 _
theorem Fd.set1 {w : World} {g : Nat} {L : ByteArray} {k j : Bool} {told st : Value} (h : Fd w g L k told st) : Fd (w.setCell ⟨g, 1, none⟩ (.bool j)) g L j told st := rowSet h 1 _
theorem Fd.set2 {w : World} {g : Nat} {L : ByteArray} {k : Bool} {told tl st : Value} (h : Fd w g L k told st) : Fd (w.setCell ⟨g, 2, none⟩ tl) g L k tl st := rowSet h 2 _
theorem Fd.set3 {w : World} {g : Nat} {L : ByteArray} {k : Bool} {told st s : Value} (h : Fd w g L k told st) : Fd (w.setCell ⟨g, 3, none⟩ s) g L k told s := rowSet h 3 _
theorem bel_set {B g i : Nat} {w0 w : World} (h : Below B w0 w) (hg : B ≤ g) (v : Value) : Below B w0 (w.setCell ⟨g, i, none⟩ v) := h.setCell (p := ⟨g, i, none⟩) hg v
set_option maxHeartbeats 1000000 in
set_option maxRecDepth 100000 in
theorem fbro_any (g : Nat) (L : ByteArray) (k : Bool) (told st : Value) (q : List Inn) (w : World) (h : Fd w g L k told st) (hS : SS w (g + 1) told q) :
    Calls Tryd.prog 35 #[.pointer (some ⟨g, 0, none⟩)] w fun e w' => e = .returned (.tuple #[]) ∧ Fd w' g ⟨#[]⟩ true told .nilFunc ∧ SS w' (g + 1) told q ∧ Below g w w' := by
  have HF := Lib.hid h
  have HS := Lib.hid hS
  obtain ⟨c0, c1, c2, c3⟩ := h.cells
  have zf := row_free (show w.heap[g]? = some (.cells #[.string L, .bool k, told, st] 71 (0, 0)) from h)
  clear h hS
  go_enter Tryd.func35, Tryd.ntmps35
  go_wp2
  go_end0
  exact ⟨rfl, HF.out.set0.set1.set3, ((HS.out.store (Nat.lt_succ_self _)).store (Nat.lt_succ_self _)).store (Nat.lt_succ_self _), bel_set (bel_set (bel_set (Below.refl _ _) (Nat.le_refl _) _) (Nat.le_refl _) _) (Nat.le_refl _) _⟩
/-- a frame is put behind those that were told. -/
theorem append_feed {ops : Array Oper} {rest : List Oper} {o : Oper} {a : Act} {Q : Exit → Act → World → Prop} (hgd : o.guard = none) (s x : Operand)
    (ho : o.op = .call { callee := .builtin .append, args := #[s, x], argTypes := #[27, 27] })
    (g H ln cp : Nat) (L : ByteArray) (told : Value) (A : Option Addr) (ss : List ByteArray) (q : List Inn) (w1 : World) (hs : a.eval s = told) (hx : a.eval x = .slice (some ⟨w1.heap.size, 0, none⟩) 1 1)
    (hF : Fd w1 g L false told (fNxt g)) (hS : SS w1 (g + 1) told q) (hH : g + 1 ≤ H) (hib : ∀ b ∈ ibs q, b < H) (hvb : ∀ b, told.ownBlock = some b → b < H) (hl : ss.length = ln)
    (hO : w1.ownsRow H 9 1 (.slice A ln cp) ln (ss.map Value.string)) (hq : q.length ≤ 10000)
    (h : ∀ A2 cp2 wn, Hid (Fd wn g L false told (fNxt g)) → wn.cell? ⟨g, 0, none⟩ = some (.string L) → wn.cell? ⟨g, 2, none⟩ = some told → wn.cell? ⟨g, 3, none⟩ = some (fNxt g) → (∀ i, wn.frozen? ⟨g, i, none⟩ = false) →
      Hid (SS wn (g + 1) (.slice A2 (q.length + 1) cp2) (q ++ [(.slice A ln cp, ss)])) → Hid (Below (g + 1) w1 wn) → wpList Tryd.prog ops Q rest (a.put o.dst (.slice A2 (q.length + 1) cp2)) wn) :
    wpList Tryd.prog ops Q (o :: rest) a (w1.alloc (.cells #[.slice A ln cp] 33)) := by
  obtain ⟨i0, hi, hz0, hz1, hz2⟩ := info_parts infoStrs
  have hlt1 := row_lt (show w1.heap[g]? = some (.cells #[.string L, .bool false, told, fNxt g] 71 (0, 0)) from hF)
  have hvg : ∀ b, told.ownBlock = some b → g + 1 ≤ b := fun b e => (hS.out.lt b e).1
  refine wpList_append_own_at _ hgd s x 27 ho (g + 1) 33 i0 (.slice none 0 0) 1 24 Tryd.underlying27 hi hz0 hz1 hz2 rfl (by decide) told _ _ hs (hS.out.alloc _) ⟨w1.heap.size, 0, none⟩ 1 1 [.slice A ln cp] hx rfl (cell_one_new _ _ _) (by simp [Value.oneCell']) (by unfold maxLen; omega) (by omega) (by simp <;> omega) ?_
  intro v' wn hown' hgrow _ hat
  obtain ⟨A2, cp2, rfl⟩ := own_shape hown'
  have hFn : Fd wn g L false told (fNxt g) := (hgrow.block g (by simp; omega) (fun e => by have := hvg g e.symm; omega)).trans ((heap_alloc_old w1 _ hlt1).trans hF)
  obtain ⟨k0, _, k2, k3⟩ := hFn.cells
  exact h A2 cp2 wn (Lib.hid hFn) k0 k2 k3 (row_free (show wn.heap[g]? = some (.cells #[.string L, .bool false, told, fNxt g] 71 (0, 0)) from hFn))
    (Lib.hid ((hS.below ((Below.refl _ _).alloc (Nat.le_refl _) _)).next (r := (.slice A ln cp, ss)) (by rw [hl]; exact hO.alloc _) hH hib hvb hown' hgrow hat))
    (Lib.hid (((Below.refl _ w1).alloc (by omega) _).grown hgrow (by simp; omega) (fun k hk => hvg k hk)))
/-- what a step does. -/
def NxtP (g : Nat) (L : ByteArray) (told : Value) (q : List Inn) (w : World) (e : Ending) (w' : World) : Prop :=
  e = .returned (.tuple #[]) ∧ Below g w w' ∧
  ((fg L).1 < 0 ∧ Fd w' g L false told (fBro g) ∧ SS w' (g + 1) told q ∨
   (fg L).1 = 0 ∧ Fd w' g L false told .nilFunc ∧ SS w' (g + 1) told q ∨
   ∃ (n : Nat) (tl v : Value), (fg L).1 = (n : Int) ∧ 0 < n ∧ n ≤ L.size ∧ Fd w' g (L.extract n L.size) false tl (fNxt g) ∧ SS w' (g + 1) tl (q ++ [(v, (fg L).2)]))
set_option maxHeartbeats 4000000 in
set_option maxRecDepth 100000 in
theorem fnxt_any (g : Nat) (L : ByteArray) (told : Value) (q : List Inn) (w : World) (h : Fd w g L false told (fNxt g)) (hS : SS w (g + 1) told q) (hL : L.size ≤ 1099511627776) (hq : q.length ≤ 10000) :
    Calls Tryd.prog 34 #[.pointer (some ⟨g, 0, none⟩)] w (NxtP g L told q w) := by
  have hpost : ∃ P : Ending → World → Prop, P = NxtP g L told q w := ⟨_, rfl⟩
  obtain ⟨P, hP⟩ := hpost
  rw [← hP]
  have HP := Lib.hid hP
  clear hP
  have hlt := row_lt (show w.heap[g]? = some (.cells #[.string L, .bool false, told, fNxt g] 71 (0, 0)) from h)
  have HF := Lib.hid h
  have HS := Lib.hid hS
  obtain ⟨c0, c1, c2, c3⟩ := h.cells
  have HI : Hid (∀ w : World, Calls Tryd.prog 36 #[.string L] w (FG L w)) := Lib.hid (fun w => implFrameGet_any L w hL)
  clear h hS
  obtain ⟨c, hc⟩ : ∃ c, (fg L).1 = c := ⟨_, rfl⟩
  have HC := Lib.hid hc
  have hcase : c < 0 ∨ c = 0 ∨ 0 < c := by omega
  rcases hcase with h1 | h1 | h1
  · clear hc
    have h2 : ¬ 0 < c := by omega
    go_enter Tryd.func34, Tryd.ntmps34
    go_wp2_with fail
    refine (HI.out _).mono ?_
    rintro e w1 ⟨v, rfl, hown, hb1⟩
    rw [HC.out]
    have HF1 := Lib.hid (HF.out.below hb1)
    have HS1 := Lib.hid (HS.out.below hb1)
    have HB1 := Lib.hid (hb1.mono (Nat.le_of_lt hlt))
    obtain ⟨d0, d1, d2, d3⟩ := HF1.out.cells
    have zf := row_free (show w1.heap[g]? = some (.cells #[.string L, .bool false, told, fNxt g] 71 (0, 0)) from HF1.out)
    clear hown hb1 c0 c1 c2 c3
    go_wp2
    go_end0
    rw [HP.out]
    exact ⟨rfl, bel_set HB1.out (Nat.le_refl _) _, .inl ⟨by rw [HC.out]; exact h1, HF1.out.set3, HS1.out.store (Nat.lt_succ_self _)⟩⟩
  · subst h1
    clear hc
    go_enter Tryd.func34, Tryd.ntmps34
    go_wp2_with fail
    refine (HI.out _).mono ?_
    rintro e w1 ⟨v, rfl, hown, hb1⟩
    rw [HC.out]
    have HF1 := Lib.hid (HF.out.below hb1)
    have HS1 := Lib.hid (HS.out.below hb1)
    have HB1 := Lib.hid (hb1.mono (Nat.le_of_lt hlt))
    obtain ⟨d0, d1, d2, d3⟩ := HF1.out.cells
    have zf := row_free (show w1.heap[g]? = some (.cells #[.string L, .bool false, told, fNxt g] 71 (0, 0)) from HF1.out)
    clear hown hb1 c0 c1 c2 c3
    go_wp2
    go_end0
    rw [HP.out]
    exact ⟨rfl, bel_set HB1.out (Nat.le_refl _) _, .inr (.inl ⟨HC.out, HF1.out.set3, HS1.out.store (Nat.lt_succ_self _)⟩)⟩
  · obtain ⟨n, hn, h8, hle⟩ := fg_whole (s := L) (by omega)
    obtain rfl : c = (n : Int) := by omega
    clear hc hn
    obtain ⟨i0, hi, hz0, hz1, hz2⟩ := info_parts infoStrs
    go_enter Tryd.func34, Tryd.ntmps34
    go_wp2_with fail
    refine (HI.out _).mono ?_
    rintro e w1 ⟨v, rfl, hown, hb1⟩
    rw [HC.out]
    obtain ⟨A, cp, rfl⟩ := own_shape hown
    have HF1 := Lib.hid (HF.out.below hb1)
    have HS1 := Lib.hid (HS.out.below hb1)
    have HB1 := Lib.hid (hb1.mono (Nat.le_of_lt hlt))
    have HO := Lib.hid hown
    have hsz1 := hb1.size
    obtain ⟨d0, d1, d2, d3⟩ := HF1.out.cells
    have zf := row_free (show w1.heap[g]? = some (.cells #[.string L, .bool false, told, fNxt g] 71 (0, 0)) from HF1.out)
    have hlt1 := row_lt (show w1.heap[g]? = some (.cells #[.string L, .bool false, told, fNxt g] 71 (0, 0)) from HF1.out)
    clear hown hb1 c0 c1 c2 c3
    generalize hln : (fg L).2.length = ln at HO ⊢
    have HLN := Lib.hid hln
    clear hln
    have HIB : Hid (∀ b ∈ ibs q, b < w.heap.size) := Lib.hid (fun b hb => (HS.out.ltI b hb).2)
    have HVB : Hid (∀ b, told.ownBlock = some b → g + 1 ≤ b ∧ b < w.heap.size) := Lib.hid (fun b hb => HS.out.out.lt b hb)
    have HQL := Lib.hid hq
    go_wp2_with (at_builtin; go_must (refine append_feed rfl (.tmp 23) (.tmp 25) rfl g w.heap.size ln cp L told A (fg L).2 q w1 rfl rfl HF1.out HS1.out hlt HIB.out (fun b hb => (HVB.out b hb).2) HLN.out HO.out hq ?_); intro A2 cp2 wn HFN k0 k2 k3 zn HSN HBN)
    go_end0
    rw [HP.out]
    exact ⟨rfl, bel_set (bel_set (HB1.out.trans (HBN.out.mono (Nat.le_succ _))) (Nat.le_refl _) _) (Nat.le_refl _) _, .inr (.inr ⟨n, _, _, HC.out, by omega, hle, HFN.out.set2.set0, (HSN.out.store (Nat.lt_succ_self _)).store (Nat.lt_succ_self _)⟩)⟩
end Go.Proofs.YtfiiopchfmcjdabDoor

/- impl.PipeFeed: what it answers. -/
namespace Go.Proofs.YtfiiopchfmcjdabDoor
open Go.RowKit
/-- what PipeFeed answers. -/
def PF (s : ByteArray) (b : Bool) (t : ByteArray) (w : World) (e : Ending) (w' : World) : Prop :=
  ∃ (v : Value) (q : List Inn), e = .returned (.tuple #[pipV (pipeF s b t).2.1 (pipeF s b t).1, v]) ∧ SS w' w.heap.size v q ∧ q.map (·.2) = (pipeF s b t).2.2 ∧ Below w.heap.size w w'
/-- where the loop stands. -/
def FJ (R : Fed) (g : Nat) (k : Nat) (w : World) : Prop :=
  ∃ (L : ByteArray) (c : Bool) (told st : Value) (q : List Inn), Fd w g L c told st ∧ SS w (g + 1) told q ∧
    (st = fNxt g ∧ c = false ∧ R = ((feedB L).1, (feedB L).2.1, q.map (·.2) ++ (feedB L).2.2) ∧ 8 * q.length + L.size ≤ 6000 ∧ L.size + 3 ≤ k ∨
     st = fBro g ∧ R = (true, ⟨#[]⟩, q.map (·.2)) ∧ 1 ≤ k ∨
     st = .nilFunc ∧ R = (c, L, q.map (·.2)))
theorem fin2 {w W : World} {B r : Nat} {T : TypeId} {u0 u1 : Value} (v0 v1 : Value) (hz : W.heap[r]? = some (.cells #[u0, u1] T (0, 0))) (hb : Below B w W) (hr : B ≤ r) :
    ∃ wf, (W.setCell ⟨r, 0, none⟩ v0).setCell ⟨r, 1, none⟩ v1 = wf ∧ wf.heap[r]? = some (.cells #[v0, v1] T (0, 0)) ∧ Below B w wf :=
  ⟨_, rfl, rowSet (rowSet hz 0 _) 1 _, bel_set (bel_set hb hr _) hr _⟩
theorem neqS_nil (W : World) : (binOp .neq 1 .nilFunc .nilFunc).run Tryd.prog W = .ok (.bool false) W := by kernel_rfl
theorem neqS_fn (f : Fn) (xs ys : Array Value) (W : World) : (binOp .neq 1 (.func f xs ys) .nilFunc).run Tryd.prog W = .ok (.bool true) W := by kernel_rfl
set_option maxHeartbeats 4000000 in
set_option maxRecDepth 100000 in
theorem implPipeFeed_no (s : ByteArray) (b : Bool) (t : ByteArray) (w : World) (hs : s.size ≤ 1099511627776) (ht : t.size ≤ 1099511627776) (hno : pipeB s b = false ∨ 4000 < t.size) :
    Calls Tryd.prog 8 #[pipV s b, .string t] w (PF s b t w) := by
  have hR : pipeF s b t = (false, ⟨#[]⟩, []) := by unfold pipeF; rw [if_pos hno]
  have HI := Lib.hid (fun w => implPipeOk_any s b w hs)
  have hpost : ∃ P : Ending → World → Prop, P = PF s b t w := ⟨_, rfl⟩
  obtain ⟨P, hP⟩ := hpost
  rw [← hP]
  have HP := Lib.hid hP
  have HR := Lib.hid hR
  clear hP hR
  have K0 : Hid (((w.alloc (.cells #[.string s, .bool b] 24)).alloc (.cells #[.string { data := #[] }, .bool false] 24)).heap[w.heap.size]? = some (.cells #[.string s, .bool b] 24 (0, 0))) := Lib.hid ((heap_alloc_old _ _ (by simp)).trans (heap_alloc_new w _))
  have K1 : Hid (((w.alloc (.cells #[.string s, .bool b] 24)).alloc (.cells #[.string { data := #[] }, .bool false] 24)).heap[w.heap.size + 1]? = some (.cells #[.string { data := #[] }, .bool false] 24 (0, 0))) := Lib.hid (by
    have := heap_alloc_new (w.alloc (.cells #[.string s, .bool b] 24)) (.cells #[.string { data := #[] }, .bool false] 24)
    simpa using this)
  have HB0 := Lib.hid (((Below.refl w.heap.size w).alloc (Nat.le_refl _) (.cells #[.string s, .bool b] 24)).alloc (by simp) (.cells #[.string { data := #[] }, .bool false] 24))
  cases hb : pipeB s b
  · have HBF := Lib.hid hb
    clear hb hno
    unfold pipV at HI ⊢
    go_enter Tryd.func8, Tryd.ntmps8
    go_wp2_with (go_at_call 11; refine (HI.out _).mono ?_; rintro e w1 ⟨rfl, hb1⟩; rw [HBF.out]; have hk0 := kept2 K0.out hb1; have hk1 := kept2 K1.out hb1; obtain ⟨c0, c1⟩ := cells2 hk0; obtain ⟨d0, d1⟩ := cells2 hk1; have zf := row_free hk1; have HK1 := Lib.hid hk1; have HB1 := Lib.hid (HB0.out.trans (hb1.mono (by simp; omega))); clear hk0 hk1 hb1)
    obtain ⟨wf, hwf, hrw, hbf⟩ := fin2 (.string ⟨#[]⟩) (.bool false) HK1.out HB1.out (Nat.le_succ _)
    rw [hwf]
    obtain ⟨e0, e1⟩ := cells2 hrw
    refine bodyPost_ret (v := .tuple #[.agg #[.string ⟨#[]⟩, .bool false], .slice none 0 0]) (by simp [results, Tryd.results8, go_sem, e0, e1]) rfl ?_
    rw [HP.out]
    exact ⟨_, [], by rw [HR.out]; rfl, SS.nil _ _, by rw [HR.out]; rfl, hbf⟩
  · have hlong : (4000 : Int) < ((t.size : Nat) : Int) := by
      rcases hno with h | h
      · rw [hb] at h; cases h
      · omega
    have HBF := Lib.hid hb
    clear hb hno
    unfold pipV at HI ⊢
    go_enter Tryd.func8, Tryd.ntmps8
    go_wp2_with (go_at_call 11; refine (HI.out _).mono ?_; rintro e w1 ⟨rfl, hb1⟩; rw [HBF.out]; have hk0 := kept2 K0.out hb1; have hk1 := kept2 K1.out hb1; obtain ⟨c0, c1⟩ := cells2 hk0; obtain ⟨d0, d1⟩ := cells2 hk1; have zf := row_free hk1; have HK1 := Lib.hid hk1; have HB1 := Lib.hid (HB0.out.trans (hb1.mono (by simp; omega))); clear hk0 hk1 hb1)
    obtain ⟨wf, hwf, hrw, hbf⟩ := fin2 (.string ⟨#[]⟩) (.bool false) HK1.out HB1.out (Nat.le_succ _)
    rw [hwf]
    obtain ⟨e0, e1⟩ := cells2 hrw
    refine bodyPost_ret (v := .tuple #[.agg #[.string ⟨#[]⟩, .bool false], .slice none 0 0]) (by simp [results, Tryd.results8, go_sem, e0, e1]) rfl ?_
    rw [HP.out]
    exact ⟨_, [], by rw [HR.out]; rfl, SS.nil _ _, by rw [HR.out]; rfl, hbf⟩
/-- a state as it lies in memory. -/
theorem FJ.parts {R : Fed} {g k : Nat} {w : World} (h : FJ R g k w) : ∃ (L : ByteArray) (c : Bool) (told st : Value) (q : List Inn), Fd w g L c told st ∧ SS w (g + 1) told q ∧
    (st = fNxt g ∧ c = false ∧ R = ((feedB L).1, (feedB L).2.1, q.map (·.2) ++ (feedB L).2.2) ∧ 8 * q.length + L.size ≤ 6000 ∧ L.size + 3 ≤ k ∨
     st = fBro g ∧ R = (true, ⟨#[]⟩, q.map (·.2)) ∧ 1 ≤ k ∨
     st = .nilFunc ∧ R = (c, L, q.map (·.2))) := h
/-- a step goes on. -/
theorem FJ.next {R : Fed} {g k : Nat} {L : ByteArray} {told : Value} {q : List Inn} {w : World} {e : Ending} {w' : World} (h : NxtP g L told q w e w') (hR : R = ((feedB L).1, (feedB L).2.1, q.map (·.2) ++ (feedB L).2.2)) (hb : 8 * q.length + L.size ≤ 6000) (hk : L.size + 3 ≤ k) :
    e = .returned (.tuple #[]) ∧ (∃ k', k' < k ∧ FJ R g k' w') ∧ Below g w w' := by
  obtain ⟨he, hB, h⟩ := h
  refine ⟨he, ?_, hB⟩
  rcases h with ⟨h1, hF, hS⟩ | ⟨h1, hF, hS⟩ | ⟨n, tl, v, hn, h0, hle, hF, hS⟩
  · exact ⟨1, by omega, L, false, told, _, q, hF, hS, .inr (.inl ⟨rfl, by rw [hR, feed_bad h1]; simp, Nat.le_refl _⟩)⟩
  · exact ⟨0, by omega, L, false, told, _, q, hF, hS, .inr (.inr ⟨rfl, by rw [hR, feed_wait h1]; simp⟩)⟩
  · obtain ⟨m, hm, h8, hle2⟩ := fg_whole (s := L) (by omega)
    obtain rfl : m = n := by omega
    have hc := cut_size L m hle
    exact ⟨(L.size - m) + 3, by omega, L.extract m L.size, false, tl, _, q ++ [(v, (fg L).2)], hF, hS, .inl ⟨rfl, rfl, by rw [hR, feed_more hn h0 hle]; simp, by rw [List.length_append, hc]; simp; omega, by rw [hc]; exact Nat.le_refl _⟩⟩
set_option maxHeartbeats 4000000 in
set_option maxRecDepth 100000 in
theorem implPipeFeed_yes (s : ByteArray) (b : Bool) (t : ByteArray) (w : World) (hs : s.size ≤ 1800) (ht : t.size ≤ 4000) (hyes : pipeB s b = true) :
    Calls Tryd.prog 8 #[pipV s b, .string t] w (PF s b t w) := by
  have hR : pipeF s b t = if b then (true, ⟨#[]⟩, []) else feedB (s ++ t) := by unfold pipeF; rw [if_neg (by rw [hyes]; simp; omega)]
  have HI := Lib.hid (fun w => implPipeOk_any s b w (by omega))
  have hpost : ∃ P : Ending → World → Prop, P = PF s b t w := ⟨_, rfl⟩
  obtain ⟨P, hP⟩ := hpost
  rw [← hP]
  have HP := Lib.hid hP
  have HR := Lib.hid hR
  have HBF := Lib.hid hyes
  have hmf : ∀ (fn : Fn) (first cap : Array Value) (w : World), (Instr.makeFunc fn first cap).run Tryd.prog w = .ok (.func fn first cap) w := fun _ _ _ _ => rfl
  have hshort : ¬ (4000 : Int) < ((t.size : Nat) : Int) := by omega
  clear hP hR hyes
  have K0 : Hid (((w.alloc (.cells #[.string s, .bool b] 24)).alloc (.cells #[.string { data := #[] }, .bool false] 24)).heap[w.heap.size]? = some (.cells #[.string s, .bool b] 24 (0, 0))) := Lib.hid ((heap_alloc_old _ _ (by simp)).trans (heap_alloc_new w _))
  have K1 : Hid (((w.alloc (.cells #[.string s, .bool b] 24)).alloc (.cells #[.string { data := #[] }, .bool false] 24)).heap[w.heap.size + 1]? = some (.cells #[.string { data := #[] }, .bool false] 24 (0, 0))) := Lib.hid (by
    have := heap_alloc_new (w.alloc (.cells #[.string s, .bool b] 24)) (.cells #[.string { data := #[] }, .bool false] 24)
    simpa using this)
  have HB0 := Lib.hid (((Below.refl w.heap.size w).alloc (Nat.le_refl _) (.cells #[.string s, .bool b] 24)).alloc (by simp) (.cells #[.string { data := #[] }, .bool false] 24))
  unfold pipV at HI ⊢
  go_enter Tryd.func8, Tryd.ntmps8
  cases b
  · go_wp2_with (go_at_call 11; refine (HI.out _).mono ?_; rintro e w1 ⟨rfl, hb1⟩; rw [HBF.out]; have hk0 := kept2 K0.out hb1; have hk1 := kept2 K1.out hb1; obtain ⟨c0, c1⟩ := cells2 hk0; have HK1 := Lib.hid hk1; have hg1 : w.heap.size + 2 ≤ w1.heap.size := (by have := hb1.size; simp at this; omega); have hg2 : w.heap.size < w1.heap.size := (by omega); have hg3 : ¬ w.heap.size = w1.heap.size := (by omega); have hca : ∀ o : Obj, (w1.alloc o).cell? ⟨w.heap.size, 1, none⟩ = some (.bool false) := (fun o => (World.cell?_of_block (heap_alloc_old w1 o hg2)).trans c1); have HB1 := Lib.hid (HB0.out.trans (hb1.mono (by simp; omega))); clear hk0 hk1 hb1)
    obtain ⟨g, hg⟩ : ∃ g, w1.heap.size = g := ⟨_, rfl⟩
    have hFD := heap_alloc_new w1 (.cells #[.string (s ++ t), .bool false, .slice none 0 0, .func (.func 34) #[.pointer (some ⟨w1.heap.size, 0, none⟩)] #[]] 71)
    have HK2 := Lib.hid ((heap_alloc_old w1 (.cells #[.string (s ++ t), .bool false, .slice none 0 0, .func (.func 34) #[.pointer (some ⟨w1.heap.size, 0, none⟩)] #[]] 71) (show w.heap.size + 1 < w1.heap.size by omega)).trans HK1.out)
    have HB2 := Lib.hid (HB1.out.alloc (by omega) (.cells #[.string (s ++ t), .bool false, .slice none 0 0, .func (.func 34) #[.pointer (some ⟨w1.heap.size, 0, none⟩)] #[]] 71))
    rw [hg] at hFD HK2 HB2 ⊢
    clear hca c0 c1 hg2 hg3 HK1 HB1 K0 K1 HB0 HI hmf
    generalize w1.alloc (.cells #[.string (s ++ t), .bool false, .slice none 0 0, .func (.func 34) #[.pointer (some ⟨g, 0, none⟩)] #[]] 71) = W0 at hFD HK2 HB2 ⊢
    rw [hg] at hg1
    clear hg
    have hst : (s ++ t).size = s.size + t.size := by simp
    have HJ0 : Hid (FJ (feedB (s ++ t)) g ((s ++ t).size + 3) W0) := Lib.hid ⟨s ++ t, false, _, _, [], hFD, SS.nil _ _, .inl ⟨rfl, rfl, by simp, by simp; omega, Nat.le_refl _⟩⟩
    clear hFD hst
    go_loopg [] ((s ++ t).size + 3) (fun k wr => Hid (FJ (feedB (s ++ t)) g k wr) ∧ Hid (Below g W0 wr))
    case atStart => exact ⟨HJ0, Below.refl _ _⟩
    case round =>
      obtain ⟨HJ, HB⟩ := hrel
      rcases HJ.out.parts with ⟨L, c, told, st, q, hF, hS, ⟨rfl, rfl, h1, h2, h3⟩ | ⟨rfl, h1, h2⟩ | ⟨rfl, h1⟩⟩
      · have HN := Lib.hid ((fnxt_any g L told q wr hF hS (by omega) (by omega)).mono fun e w' h => FJ.next h h1 h2 h3)
        obtain ⟨c0, c1, c2, c3⟩ := hF.cells
        clear h1 hF hS HJ
        unfold fNxt at c3
        have hneq := neqS_fn
        go_wp2_with fail
        refine HN.out.mono ?_
        rintro e w4 ⟨rfl, ⟨k', hk', hj4⟩, hb4⟩
        have HJ4 := Lib.hid hj4
        have HB4 := Lib.hid (HB.out.trans hb4)
        clear hj4 hb4
        go_wp2
        go_roundg k'
        case measure => exact hk'
        case rel => exact ⟨HJ4, HB4⟩
      · have HN := Lib.hid (fbro_any g L c told (fBro g) q wr hF hS)
        obtain ⟨c0, c1, c2, c3⟩ := hF.cells
        have H1 := Lib.hid h1
        clear h1 hF hS HJ
        unfold fBro at c3
        have hneq := neqS_fn
        go_wp2_with fail
        refine HN.out.mono ?_
        rintro e w4 ⟨rfl, hF4, hS4, hb4⟩
        have HJ4 : Hid (FJ (feedB (s ++ t)) g 0 w4) := Lib.hid ⟨⟨#[]⟩, true, told, _, q, hF4, hS4, .inr (.inr ⟨rfl, H1.out⟩)⟩
        have HB4 := Lib.hid (HB.out.trans hb4)
        clear hF4 hS4 hb4
        go_wp2
        go_roundg 0
        case measure => omega
        case rel => exact ⟨HJ4, HB4⟩
      · obtain ⟨c0, c1, c2, c3⟩ := hF.cells
        have H1 := Lib.hid h1
        have HS := Lib.hid hS
        have hk2 := (HB.out.block (w.heap.size + 1) (by omega)).trans HK2.out
        have HK3 := Lib.hid hk2
        obtain ⟨d0, d1⟩ := cells2 hk2
        have zf := row_free hk2
        clear h1 hF hS HJ hk2
        have hneq := neqS_nil
        have hne : ¬ w.heap.size + 1 = g := by omega
        have hne2 : ¬ g = w.heap.size + 1 := by omega
        go_wp2
        go_region
        obtain ⟨wf, hwf, hrw, hbf⟩ := fin2 (.string L) (.bool c) HK3.out (HB2.out.trans (HB.out.mono (by omega))) (Nat.le_succ _)
        have hsf : SS wf (g + 1) told q := by rw [← hwf]; exact (HS.out.store (by omega)).store (by omega)
        have hsd : SS wf.drew w.heap.size told q := (hsf.mono (by omega)).frame (fun _ _ => rfl)
        have HSD := Lib.hid hsd
        have hbd : Below w.heap.size w wf.drew := hbf.drew
        have HBD := Lib.hid hbd
        obtain ⟨e0, e1⟩ := cells2 (show wf.drew.heap[w.heap.size + 1]? = some (.cells #[.string L, .bool c] 24 (0, 0)) from hrw)
        rw [hwf]
        clear hwf hrw hbf hsf hsd hbd
        go_wp2
        refine bodyPost_ret (v := .tuple #[.agg #[.string L, .bool c], told]) (by simp [results, Tryd.results8, go_sem, e0, e1]) rfl ?_
        rw [HP.out]
        exact ⟨told, q, by rw [HR.out]; rw [if_neg (by decide)]; rw [H1.out]; rfl, HSD.out, by rw [HR.out]; rw [if_neg (by decide)]; rw [H1.out], HBD.out⟩
  · go_wp2_with (go_at_call 11; refine (HI.out _).mono ?_; rintro e w1 ⟨rfl, hb1⟩; rw [HBF.out]; have hk0 := kept2 K0.out hb1; have hk1 := kept2 K1.out hb1; obtain ⟨c0, c1⟩ := cells2 hk0; have HK1 := Lib.hid hk1; have hg1 : w.heap.size + 2 ≤ w1.heap.size := (by have := hb1.size; simp at this; omega); have hg2 : w.heap.size < w1.heap.size := (by omega); have hg3 : ¬ w.heap.size = w1.heap.size := (by omega); have hca : ∀ o : Obj, (w1.alloc o).cell? ⟨w.heap.size, 1, none⟩ = some (.bool true) := (fun o => (World.cell?_of_block (heap_alloc_old w1 o hg2)).trans c1); have HB1 := Lib.hid (HB0.out.trans (hb1.mono (by simp; omega))); clear hk0 hk1 hb1)
    obtain ⟨g, hg⟩ : ∃ g, w1.heap.size = g := ⟨_, rfl⟩
    have hFD := heap_alloc_new w1 (.cells #[.string (s ++ t), .bool true, .slice none 0 0, .func (.func 35) #[.pointer (some ⟨w1.heap.size, 0, none⟩)] #[]] 71)
    have HK2 := Lib.hid ((heap_alloc_old w1 (.cells #[.string (s ++ t), .bool true, .slice none 0 0, .func (.func 35) #[.pointer (some ⟨w1.heap.size, 0, none⟩)] #[]] 71) (show w.heap.size + 1 < w1.heap.size by omega)).trans HK1.out)
    have HB2 := Lib.hid (HB1.out.alloc (by omega) (.cells #[.string (s ++ t), .bool true, .slice none 0 0, .func (.func 35) #[.pointer (some ⟨w1.heap.size, 0, none⟩)] #[]] 71))
    rw [hg] at hFD HK2 HB2 ⊢
    clear hca c0 c1 hg2 hg3 HK1 HB1 K0 K1 HB0 HI hmf
    generalize w1.alloc (.cells #[.string (s ++ t), .bool true, .slice none 0 0, .func (.func 35) #[.pointer (some ⟨g, 0, none⟩)] #[]] 71) = W0 at hFD HK2 HB2 ⊢
    rw [hg] at hg1
    clear hg
    have hst : (s ++ t).size = s.size + t.size := by simp
    have HJ0 : Hid (FJ (true, ⟨#[]⟩, []) g ((s ++ t).size + 3) W0) := Lib.hid ⟨s ++ t, true, _, _, [], hFD, SS.nil _ _, .inr (.inl ⟨rfl, rfl, by omega⟩)⟩
    clear hFD hst
    go_loopg [] ((s ++ t).size + 3) (fun k wr => Hid (FJ (true, ⟨#[]⟩, []) g k wr) ∧ Hid (Below g W0 wr))
    case atStart => exact ⟨HJ0, Below.refl _ _⟩
    case round =>
      obtain ⟨HJ, HB⟩ := hrel
      rcases HJ.out.parts with ⟨L, c, told, st, q, hF, hS, ⟨rfl, rfl, h1, h2, h3⟩ | ⟨rfl, h1, h2⟩ | ⟨rfl, h1⟩⟩
      · have HN := Lib.hid ((fnxt_any g L told q wr hF hS (by omega) (by omega)).mono fun e w' h => FJ.next h h1 h2 h3)
        obtain ⟨c0, c1, c2, c3⟩ := hF.cells
        clear h1 hF hS HJ
        unfold fNxt at c3
        have hneq := neqS_fn
        go_wp2_with fail
        refine HN.out.mono ?_
        rintro e w4 ⟨rfl, ⟨k', hk', hj4⟩, hb4⟩
        have HJ4 := Lib.hid hj4
        have HB4 := Lib.hid (HB.out.trans hb4)
        clear hj4 hb4
        go_wp2
        go_roundg k'
        case measure => exact hk'
        case rel => exact ⟨HJ4, HB4⟩
      · have HN := Lib.hid (fbro_any g L c told (fBro g) q wr hF hS)
        obtain ⟨c0, c1, c2, c3⟩ := hF.cells
        have H1 := Lib.hid h1
        clear h1 hF hS HJ
        unfold fBro at c3
        have hneq := neqS_fn
        go_wp2_with fail
        refine HN.out.mono ?_
        rintro e w4 ⟨rfl, hF4, hS4, hb4⟩
        have HJ4 : Hid (FJ (true, ⟨#[]⟩, []) g 0 w4) := Lib.hid ⟨⟨#[]⟩, true, told, _, q, hF4, hS4, .inr (.inr ⟨rfl, H1.out⟩)⟩
        have HB4 := Lib.hid (HB.out.trans hb4)
        clear hF4 hS4 hb4
        go_wp2
        go_roundg 0
        case measure => omega
        case rel => exact ⟨HJ4, HB4⟩
      · obtain ⟨c0, c1, c2, c3⟩ := hF.cells
        have H1 := Lib.hid h1
        have HS := Lib.hid hS
        have hk2 := (HB.out.block (w.heap.size + 1) (by omega)).trans HK2.out
        have HK3 := Lib.hid hk2
        obtain ⟨d0, d1⟩ := cells2 hk2
        have zf := row_free hk2
        clear h1 hF hS HJ hk2
        have hneq := neqS_nil
        have hne : ¬ w.heap.size + 1 = g := by omega
        have hne2 : ¬ g = w.heap.size + 1 := by omega
        go_wp2
        go_region
        obtain ⟨wf, hwf, hrw, hbf⟩ := fin2 (.string L) (.bool c) HK3.out (HB2.out.trans (HB.out.mono (by omega))) (Nat.le_succ _)
        have hsf : SS wf (g + 1) told q := by rw [← hwf]; exact (HS.out.store (by omega)).store (by omega)
        have hsd : SS wf.drew w.heap.size told q := (hsf.mono (by omega)).frame (fun _ _ => rfl)
        have HSD := Lib.hid hsd
        have hbd : Below w.heap.size w wf.drew := hbf.drew
        have HBD := Lib.hid hbd
        obtain ⟨e0, e1⟩ := cells2 (show wf.drew.heap[w.heap.size + 1]? = some (.cells #[.string L, .bool c] 24 (0, 0)) from hrw)
        rw [hwf]
        clear hwf hrw hbf hsf hsd hbd
        go_wp2
        refine bodyPost_ret (v := .tuple #[.agg #[.string L, .bool c], told]) (by simp [results, Tryd.results8, go_sem, e0, e1]) rfl ?_
        rw [HP.out]
        exact ⟨told, q, by rw [HR.out]; rw [if_pos (by trivial)]; rw [H1.out]; rfl, HSD.out, by rw [HR.out]; rw [if_pos (by trivial)]; rw [H1.out], HBD.out⟩
theorem pipe_small {s : ByteArray} {b : Bool} (h : pipeB s b = true) : s.size ≤ 1800 := by
  unfold pipeB at h
  cases b
  · rw [if_neg (by decide)] at h
    exact (of_decide_eq_true h).2
  · rw [if_pos rfl] at h
    have : s.size = 0 := by simpa using h
    omega
theorem implPipeFeed_any (s : ByteArray) (b : Bool) (t : ByteArray) (w : World) (hs : s.size ≤ 1099511627776) (ht : t.size ≤ 1099511627776) :
    Calls Tryd.prog 8 #[pipV s b, .string t] w (PF s b t w) := by
  by_cases h : pipeB s b = false ∨ 4000 < t.size
  · exact implPipeFeed_no s b t w hs ht h
  · have hb : pipeB s b = true := by
      cases hb : pipeB s b
      · exact absurd (.inl hb) h
      · rfl
    exact implPipeFeed_yes s b t w (pipe_small hb) (by omega) hb
end Go.Proofs.YtfiiopchfmcjdabDoor
