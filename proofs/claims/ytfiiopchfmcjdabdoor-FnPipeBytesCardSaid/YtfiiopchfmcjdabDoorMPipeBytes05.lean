/- Texts of the proof of the law FnPipeBytes, side by side: part 5. -/
import Derived.Laws.OwnMore
import Derived.OwnWalk
import Derived.Deep.QuietTactic
import Derived.BigQuiet
import Derived.Deep.RegionWith
import Derived.Test.YtfiiopchfmcjdabDoorMPipeBytes00
import Derived.Test.YtfiiopchfmcjdabDoorMPipeBytes01
import Derived.Test.YtfiiopchfmcjdabDoorMPipeBytes02
import Derived.Test.YtfiiopchfmcjdabDoorMPipeBytes03
import Derived.Test.YtfiiopchfmcjdabDoorMPipeBytes04
/- spec.PipeFeed: what it answers. -/
namespace Go.Proofs.YtfiiopchfmcjdabDoor
open Go.RowKit
/-- a list of lists of texts, as it reads. -/
def RS (w : World) (v : Value) (q : List Inn) : Prop :=
  ∃ A c, v = .slice A q.length c ∧ Ones w A (q.map (·.1)) ∧ ∀ r ∈ q, ∃ A' c', r.1 = .slice A' r.2.length c' ∧ Strs w A' r.2
theorem RS.below {w w' : World} {v : Value} {q : List Inn} (h : RS w v q) (hb : Below w.heap.size w w') : RS w' v q := by
  obtain ⟨A, c, h1, h2, h3⟩ := h
  exact ⟨A, c, h1, h2.below hb, fun r hr => by obtain ⟨A', c', e, hs⟩ := h3 r hr; exact ⟨A', c', e, hs.below hb⟩⟩
theorem SS.reads {w : World} {B : Nat} {v : Value} {q : List Inn} (h : SS w B v q) (hs : ∀ r ∈ q, ∀ s ∈ r.2, s.size ≤ maxLen) : RS w v q := by
  obtain ⟨A, c, rfl⟩ := own_shape h.out
  refine ⟨A, c, rfl, Ones.own h.out, fun r hr => ?_⟩
  obtain ⟨A', c', e⟩ := own_shape (h.inn r hr)
  have hi := h.inn r hr
  rw [e] at hi
  exact ⟨A', c', e, strs_own hi (hs r hr)⟩
/-- a list that is made, of texts that lie elsewhere. -/
structure SR (w : World) (B : Nat) (v : Value) (q : List Inn) : Prop where
  out : w.ownsRow B 33 1 v q.length (q.map (·.1))
  inn : ∀ r ∈ q, ∃ A' c', r.1 = .slice A' r.2.length c' ∧ Strs w A' r.2 ∧ ∀ a, A' = some a → 0 < r.2.length → B ≤ a.block ∧ some a.block ≠ v.ownBlock
theorem SR.reads {w : World} {B : Nat} {v : Value} {q : List Inn} (h : SR w B v q) : RS w v q := by
  obtain ⟨A, c, rfl⟩ := own_shape h.out
  exact ⟨A, c, rfl, Ones.own h.out, fun r hr => by obtain ⟨A', c', e, hs, _⟩ := h.inn r hr; exact ⟨A', c', e, hs⟩⟩
theorem Strs.at_ {w w' : World} {A : Option Addr} {ss : List ByteArray} (h : Strs w A ss) (hsz : w.heap.size ≤ w'.heap.size) (hf : ∀ a, A = some a → 0 < ss.length → w'.heap[a.block]? = w.heap[a.block]?) : Strs w' A ss := by
  refine ⟨h.1, ?_⟩
  rcases h.2 with h0 | ⟨a, ha, hlt, hc⟩
  · exact .inl h0
  · by_cases h0 : ss = []
    · exact .inl h0
    · refine .inr ⟨a, ha, Nat.lt_of_lt_of_le hlt hsz, fun i hi => ?_⟩
      exact (World.cell?_of_block (a := a.add i) (by rw [add_block]; exact hf a ha (List.length_pos_iff.2 h0))).trans (hc i hi)
theorem SR.below {w w' : World} {B : Nat} {v : Value} {q : List Inn} (h : SR w B v q) (hb : Below w.heap.size w w') : SR w' B v q := by
  refine ⟨?_, fun r hr => ?_⟩
  · refine ⟨h.out.1, ?_⟩
    rcases h.out.2 with hn | ⟨g, cap, cur, rfl, h1, h2, h3⟩
    · exact .inl hn
    · exact .inr ⟨g, cap, cur, rfl, h1, (hb.block g (row_lt h2)).trans h2, h3⟩
  · obtain ⟨A', c', e, hs, hd⟩ := h.inn r hr
    exact ⟨A', c', e, hs.below hb, hd⟩
theorem strs_lt {w : World} {A : Option Addr} {ss : List ByteArray} (h : Strs w A ss) : ∀ a, A = some a → 0 < ss.length → a.block < w.heap.size := by
  intro a ha hl
  rcases h.2 with h0 | ⟨a', ha', hlt, _⟩
  · rw [h0] at hl; cases hl
  · rw [ha] at ha'; injection ha' with e; subst e; exact hlt
/-- a frame is put behind those that were told. -/
theorem append_told {ops : Array Oper} {rest : List Oper} {o : Oper} {a : Act} {Q : Exit → Act → World → Prop} (hgd : o.guard = none) (s x : Operand)
    (ho : o.op = .call { callee := .builtin .append, args := #[s, x], argTypes := #[27, 27] })
    (B cp : Nat) (told : Value) (A : Option Addr) (ss : List ByteArray) (q : List Inn) (w1 : World) (hs : a.eval s = told) (hx : a.eval x = .slice (some ⟨w1.heap.size, 0, none⟩) 1 1)
    (hS : SR w1 B told q) (hst : Strs w1 A ss) (hd : ∀ a, A = some a → 0 < ss.length → B ≤ a.block ∧ some a.block ≠ told.ownBlock) (hB : B ≤ w1.heap.size) (hq : q.length ≤ 10000)
    (h : ∀ A2 cp2 wn, Hid (SR wn B (.slice A2 (q.length + 1) cp2) (q ++ [(.slice A ss.length cp, ss)])) → Hid (Below B w1 wn) → wpList Tryd.prog ops Q rest (a.put o.dst (.slice A2 (q.length + 1) cp2)) wn) :
    wpList Tryd.prog ops Q (o :: rest) a (w1.alloc (.cells #[.slice A ss.length cp] 33)) := by
  obtain ⟨i0, hi, hz0, hz1, hz2⟩ := info_parts infoStrs
  refine wpList_append_own_at _ hgd s x 27 ho B 33 i0 (.slice none 0 0) 1 24 Tryd.underlying27 hi hz0 hz1 hz2 rfl (by decide) told _ _ hs (hS.out.alloc _) ⟨w1.heap.size, 0, none⟩ 1 1 [.slice A ss.length cp] hx rfl (cell_one_new _ _ _) (by simp [Value.oneCell']) (by unfold maxLen; omega) (by omega) (by simp <;> omega) ?_
  intro v' wn hown' hgrow _ hat
  obtain ⟨A2, cp2, rfl⟩ := own_shape hown'
  have hbig : (w1.alloc (.cells #[.slice A ss.length cp] 33)).heap.size = w1.heap.size + 1 := by simp
  have hsep : ∀ k, k < w1.heap.size → some k ≠ told.ownBlock → some k ≠ (Value.slice A2 (q.length + 1) cp2).ownBlock := fun k h1 h2 e => by
    rcases hat with e2 | e2
    · exact h2 (e.trans e2)
    · rw [e2] at e; injection e with e; omega
  have hkeep : ∀ k, k < w1.heap.size → some k ≠ told.ownBlock → wn.heap[k]? = w1.heap[k]? := fun k h1 h2 =>
    (hgrow.block k (by omega) h2).trans (heap_alloc_old w1 _ h1)
  have hstr : ∀ (A' : Option Addr) (zs : List ByteArray), Strs w1 A' zs → (∀ a, A' = some a → 0 < zs.length → B ≤ a.block ∧ some a.block ≠ told.ownBlock) → Strs wn A' zs ∧ ∀ a, A' = some a → 0 < zs.length → B ≤ a.block ∧ some a.block ≠ (Value.slice A2 (q.length + 1) cp2).ownBlock := fun A' zs h1 h2 =>
    ⟨h1.at_ (by have := hgrow.size; omega) (fun a ha hl => hkeep a.block (strs_lt h1 a ha hl) (h2 a ha hl).2), fun a ha hl => ⟨(h2 a ha hl).1, hsep a.block (strs_lt h1 a ha hl) (h2 a ha hl).2⟩⟩
  refine h A2 cp2 wn (Lib.hid ⟨by rw [List.length_append, List.map_append]; exact hown', fun r hr => ?_⟩) (Lib.hid (((Below.refl _ w1).alloc hB _).grown hgrow (by rw [hbig]; omega) (fun k hk => (hS.out.lt k hk).1)))
  rcases List.mem_append.1 hr with hr | hr
  · obtain ⟨A', c', e, h1, h2⟩ := hS.inn r hr
    obtain ⟨h3, h4⟩ := hstr A' r.2 h1 h2
    exact ⟨A', c', e, h3, h4⟩
  · obtain rfl := List.mem_singleton.1 hr
    obtain ⟨h3, h4⟩ := hstr A ss hst hd
    exact ⟨A, cp, rfl, h3, h4⟩
/-- a cell of another block is written. -/
theorem SR.set {w : World} {B g i : Nat} {u v : Value} {q : List Inn} (h : SR w B v q) (hg : g < B) : SR (w.setCell ⟨g, i, none⟩ u) B v q := by
  refine ⟨?_, fun r hr => ?_⟩
  · refine ⟨h.out.1, ?_⟩
    rcases h.out.2 with hn | ⟨k, cap, cur, rfl, h1, h2, h3⟩
    · exact .inl hn
    · exact .inr ⟨k, cap, cur, rfl, h1, (Below.heap_setCell w ⟨g, i, none⟩ u k (by show k ≠ g; omega)).trans h2, h3⟩
  · obtain ⟨A', c', e, hs, hd⟩ := h.inn r hr
    exact ⟨A', c', e, hs.at_ (by simp) (fun a ha hl => Below.heap_setCell w ⟨g, i, none⟩ u a.block (by show a.block ≠ g; have := (hd a ha hl).1; omega)), hd⟩
/-- what PipeFeed answers. -/
def PR (s : ByteArray) (b : Bool) (t : ByteArray) (w : World) (e : Ending) (w' : World) : Prop :=
  ∃ (v : Value) (q : List Inn), e = .returned (.tuple #[pipV (pipeF s b t).2.1 (pipeF s b t).1, v]) ∧ RS w' v q ∧ q.map (·.2) = (pipeF s b t).2.2 ∧ Below w.heap.size w w'
set_option maxHeartbeats 4000000 in
set_option maxRecDepth 100000 in
theorem specPipeFeed_no (s : ByteArray) (b : Bool) (t : ByteArray) (w : World) (hs : s.size ≤ 1099511627776) (ht : t.size ≤ 1099511627776) (hno : pipeB s b = false ∨ 4000 < t.size) :
    Calls Tryd.prog 9 #[pipV s b, .string t] w (PR s b t w) := by
  have hR : pipeF s b t = (false, ⟨#[]⟩, []) := by unfold pipeF; rw [if_pos hno]
  have HI := Lib.hid (fun w => specPipeOk_any s b w hs)
  have hpost : ∃ P : Ending → World → Prop, P = PR s b t w := ⟨_, rfl⟩
  obtain ⟨P, hP⟩ := hpost
  rw [← hP]
  have HP := Lib.hid hP
  have HR := Lib.hid hR
  clear hP hR
  obtain ⟨W2, hW2⟩ : ∃ W2, ((w.alloc (.cells #[.string s, .bool b] 24)).alloc (.cells #[.string { data := #[] }, .bool false] 24)).alloc (.cells #[] 33) = W2 := ⟨_, rfl⟩
  have hs2 : W2.heap.size = w.heap.size + 3 := by rw [← hW2]; simp
  have K0 : Hid (W2.heap[w.heap.size]? = some (.cells #[.string s, .bool b] 24 (0, 0))) := Lib.hid (by
    rw [← hW2]; exact (heap_alloc_old _ _ (by simp; omega)).trans ((heap_alloc_old _ _ (by simp)).trans (heap_alloc_new w _)))
  have K1 : Hid (W2.heap[w.heap.size + 1]? = some (.cells #[.string { data := #[] }, .bool false] 24 (0, 0))) := Lib.hid (by
    rw [← hW2]
    refine (heap_alloc_old _ _ (by simp)).trans ?_
    have := heap_alloc_new (w.alloc (.cells #[.string s, .bool b] 24)) (.cells #[.string { data := #[] }, .bool false] 24)
    simpa using this)
  have HB0 : Hid (Below w.heap.size w W2) := Lib.hid (by
    rw [← hW2]; exact (((Below.refl w.heap.size w).alloc (Nat.le_refl _) _).alloc (by simp) _).alloc (by simp; omega) _)
  have HO0 : Hid (SR W2 (w.heap.size + 2) (.slice (some ⟨w.heap.size + 2, 0, none⟩) 0 0) []) := Lib.hid ⟨by
    rw [← hW2]
    have := World.ownsRow_made (base := w.heap.size + 2) (e := 33) (size := 1) ((w.alloc (.cells #[.string s, .bool b] 24)).alloc (.cells #[.string { data := #[] }, .bool false] 24)) #[] 0 (by simp) (by decide) rfl
    simpa using this, fun r h => (by cases h)⟩
  have HW2 := Lib.hid hW2
  clear hW2
  cases hb : pipeB s b
  · have HBF := Lib.hid hb
    clear hb hno
    unfold pipV at HI ⊢
    go_enter Tryd.func9, Tryd.ntmps9
    go_wp2_with (go_at_call 12; rw [HW2.out]; refine (HI.out _).mono ?_; rintro e w1 ⟨rfl, hb1⟩; rw [HBF.out]; have hk0 := kept2 K0.out hb1; have hk1 := kept2 K1.out hb1; obtain ⟨c0, c1⟩ := cells2 hk0; obtain ⟨d0, d1⟩ := cells2 hk1; have zf := row_free hk1; have HK1 := Lib.hid hk1; have HO1 := Lib.hid (HO0.out.below hb1); have hsz1 : w.heap.size + 3 ≤ w1.heap.size := (by have := hb1.size; omega); have HB1 := Lib.hid (HB0.out.trans (hb1.mono (by omega))); clear hk0 hk1 hb1)
    obtain ⟨wf, hwf, hrw, hbf⟩ := fin2 (.string ⟨#[]⟩) (.bool false) HK1.out HB1.out (Nat.le_succ _)
    have hof : RS wf (.slice (some ⟨w.heap.size + 2, 0, none⟩) 0 0) [] := ⟨_, _, rfl, .inl rfl, fun r h => by cases h⟩
    rw [hwf]
    obtain ⟨e0, e1⟩ := cells2 hrw
    refine bodyPost_ret (v := .tuple #[.agg #[.string ⟨#[]⟩, .bool false], .slice (some ⟨w.heap.size + 2, 0, none⟩) 0 0]) (by simp [results, Tryd.results9, go_sem, e0, e1]) rfl ?_
    rw [HP.out]
    exact ⟨_, [], by rw [HR.out]; rfl, hof, by rw [HR.out]; rfl, hbf⟩
  · have hlong : (4000 : Int) < ((t.size : Nat) : Int) := by
      rcases hno with h | h
      · rw [hb] at h; cases h
      · omega
    have HBF := Lib.hid hb
    clear hb hno
    unfold pipV at HI ⊢
    go_enter Tryd.func9, Tryd.ntmps9
    go_wp2_with (go_at_call 12; rw [HW2.out]; refine (HI.out _).mono ?_; rintro e w1 ⟨rfl, hb1⟩; rw [HBF.out]; have hk0 := kept2 K0.out hb1; have hk1 := kept2 K1.out hb1; obtain ⟨c0, c1⟩ := cells2 hk0; obtain ⟨d0, d1⟩ := cells2 hk1; have zf := row_free hk1; have HK1 := Lib.hid hk1; have HO1 := Lib.hid (HO0.out.below hb1); have hsz1 : w.heap.size + 3 ≤ w1.heap.size := (by have := hb1.size; omega); have HB1 := Lib.hid (HB0.out.trans (hb1.mono (by omega))); clear hk0 hk1 hb1)
    obtain ⟨wf, hwf, hrw, hbf⟩ := fin2 (.string ⟨#[]⟩) (.bool false) HK1.out HB1.out (Nat.le_succ _)
    have hof : RS wf (.slice (some ⟨w.heap.size + 2, 0, none⟩) 0 0) [] := ⟨_, _, rfl, .inl rfl, fun r h => by cases h⟩
    rw [hwf]
    obtain ⟨e0, e1⟩ := cells2 hrw
    refine bodyPost_ret (v := .tuple #[.agg #[.string ⟨#[]⟩, .bool false], .slice (some ⟨w.heap.size + 2, 0, none⟩) 0 0]) (by simp [results, Tryd.results9, go_sem, e0, e1]) rfl ?_
    rw [HP.out]
    exact ⟨_, [], by rw [HR.out]; rfl, hof, by rw [HR.out]; rfl, hbf⟩
theorem size0 {s : ByteArray} (h : s.size = 0) : s = ⟨#[]⟩ := by
  obtain ⟨a⟩ := s
  have : a.size = 0 := h
  rw [Array.size_eq_zero_iff] at this
  rw [this]
set_option maxHeartbeats 4000000 in
set_option maxRecDepth 100000 in
theorem specPipeFeed_tr (s : ByteArray) (t : ByteArray) (w : World) (ht : t.size ≤ 4000) (hyes : pipeB s true = true) :
    Calls Tryd.prog 9 #[pipV s true, .string t] w (PR s true t w) := by
  obtain rfl : s = ⟨#[]⟩ := size0 (by
    unfold pipeB at hyes
    rw [if_pos rfl] at hyes
    simpa using hyes)
  have hR : pipeF ⟨#[]⟩ true t = (true, ⟨#[]⟩, []) := by unfold pipeF; rw [if_neg (by rw [hyes]; simp; omega), if_pos rfl]
  have HI := Lib.hid (fun w => specPipeOk_any ⟨#[]⟩ true w (by decide))
  have hshort : ¬ (4000 : Int) < ((t.size : Nat) : Int) := by omega
  have HBF := Lib.hid hyes
  clear hyes
  have hpost : ∃ P : Ending → World → Prop, P = PR ⟨#[]⟩ true t w := ⟨_, rfl⟩
  obtain ⟨P, hP⟩ := hpost
  rw [← hP]
  have HP := Lib.hid hP
  have HR := Lib.hid hR
  clear hP hR
  obtain ⟨W2, hW2⟩ : ∃ W2, ((w.alloc (.cells #[.string { data := #[] }, .bool true] 24)).alloc (.cells #[.string { data := #[] }, .bool false] 24)).alloc (.cells #[] 33) = W2 := ⟨_, rfl⟩
  have hs2 : W2.heap.size = w.heap.size + 3 := by rw [← hW2]; simp
  have K0 : Hid (W2.heap[w.heap.size]? = some (.cells #[.string { data := #[] }, .bool true] 24 (0, 0))) := Lib.hid (by
    rw [← hW2]; exact (heap_alloc_old _ _ (by simp; omega)).trans ((heap_alloc_old _ _ (by simp)).trans (heap_alloc_new w _)))
  have K1 : Hid (W2.heap[w.heap.size + 1]? = some (.cells #[.string { data := #[] }, .bool false] 24 (0, 0))) := Lib.hid (by
    rw [← hW2]
    refine (heap_alloc_old _ _ (by simp)).trans ?_
    have := heap_alloc_new (w.alloc (.cells #[.string { data := #[] }, .bool true] 24)) (.cells #[.string { data := #[] }, .bool false] 24)
    simpa using this)
  have HB0 : Hid (Below w.heap.size w W2) := Lib.hid (by
    rw [← hW2]; exact (((Below.refl w.heap.size w).alloc (Nat.le_refl _) _).alloc (by simp) _).alloc (by simp; omega) _)
  have HO0 : Hid (SR W2 (w.heap.size + 2) (.slice (some ⟨w.heap.size + 2, 0, none⟩) 0 0) []) := Lib.hid ⟨by
    rw [← hW2]
    have := World.ownsRow_made (base := w.heap.size + 2) (e := 33) (size := 1) ((w.alloc (.cells #[.string { data := #[] }, .bool true] 24)).alloc (.cells #[.string { data := #[] }, .bool false] 24)) #[] 0 (by simp) (by decide) rfl
    simpa using this, fun r h => (by cases h)⟩
  have HW2 := Lib.hid hW2
  clear hW2
  unfold pipV at HI ⊢
  go_enter Tryd.func9, Tryd.ntmps9
  go_wp2_with (go_at_call 12; rw [HW2.out]; refine (HI.out _).mono ?_; rintro e w1 ⟨rfl, hb1⟩; rw [HBF.out]; have hk0 := kept2 K0.out hb1; have hk1 := kept2 K1.out hb1; obtain ⟨c0, c1⟩ := cells2 hk0; obtain ⟨d0, d1⟩ := cells2 hk1; have zf := row_free hk1; have HK1 := Lib.hid hk1; have HO1 := Lib.hid (HO0.out.below hb1); have hsz1 : w.heap.size + 3 ≤ w1.heap.size := (by have := hb1.size; omega); have HB1 := Lib.hid (HB0.out.trans (hb1.mono (by omega))); clear hk0 hk1 hb1)
  obtain ⟨wf, hwf, hrw, hbf⟩ := fin2 (.string ⟨#[]⟩) (.bool true) HK1.out HB1.out (Nat.le_succ _)
  have hof : RS wf (.slice (some ⟨w.heap.size + 2, 0, none⟩) 0 0) [] := ⟨_, _, rfl, .inl rfl, fun r h => by cases h⟩
  rw [hwf]
  obtain ⟨e0, e1⟩ := cells2 hrw
  refine bodyPost_ret (v := .tuple #[.agg #[.string ⟨#[]⟩, .bool true], .slice (some ⟨w.heap.size + 2, 0, none⟩) 0 0]) (by simp [results, Tryd.results9, go_sem, e0, e1]) rfl ?_
  rw [HP.out]
  exact ⟨_, [], by rw [HR.out]; rfl, hof, by rw [HR.out]; rfl, hbf⟩
set_option maxHeartbeats 4000000 in
set_option maxRecDepth 100000 in
theorem specPipeFeed_fa (s : ByteArray) (t : ByteArray) (w : World) (hs : s.size ≤ 1800) (ht : t.size ≤ 4000) (hyes : pipeB s false = true) :
    Calls Tryd.prog 9 #[pipV s false, .string t] w (PR s false t w) := by
  have hR : pipeF s false t = feedB (s ++ t) := by unfold pipeF; rw [if_neg (by rw [hyes]; simp; omega), if_neg (by decide)]
  have HI := Lib.hid (fun w => specPipeOk_any s false w (by omega))
  have hshort : ¬ (4000 : Int) < ((t.size : Nat) : Int) := by omega
  have HBF := Lib.hid hyes
  clear hyes
  have hpost : ∃ P : Ending → World → Prop, P = PR s false t w := ⟨_, rfl⟩
  obtain ⟨P, hP⟩ := hpost
  rw [← hP]
  have HP := Lib.hid hP
  have HR := Lib.hid hR
  clear hP hR
  obtain ⟨W2, hW2⟩ : ∃ W2, ((w.alloc (.cells #[.string s, .bool false] 24)).alloc (.cells #[.string { data := #[] }, .bool false] 24)).alloc (.cells #[] 33) = W2 := ⟨_, rfl⟩
  have hs2 : W2.heap.size = w.heap.size + 3 := by rw [← hW2]; simp
  have K0 : Hid (W2.heap[w.heap.size]? = some (.cells #[.string s, .bool false] 24 (0, 0))) := Lib.hid (by
    rw [← hW2]; exact (heap_alloc_old _ _ (by simp; omega)).trans ((heap_alloc_old _ _ (by simp)).trans (heap_alloc_new w _)))
  have K1 : Hid (W2.heap[w.heap.size + 1]? = some (.cells #[.string { data := #[] }, .bool false] 24 (0, 0))) := Lib.hid (by
    rw [← hW2]
    refine (heap_alloc_old _ _ (by simp)).trans ?_
    have := heap_alloc_new (w.alloc (.cells #[.string s, .bool false] 24)) (.cells #[.string { data := #[] }, .bool false] 24)
    simpa using this)
  have HB0 : Hid (Below w.heap.size w W2) := Lib.hid (by
    rw [← hW2]; exact (((Below.refl w.heap.size w).alloc (Nat.le_refl _) _).alloc (by simp) _).alloc (by simp; omega) _)
  have HO0 : Hid (SR W2 (w.heap.size + 2) (.slice (some ⟨w.heap.size + 2, 0, none⟩) 0 0) []) := Lib.hid ⟨by
    rw [← hW2]
    have := World.ownsRow_made (base := w.heap.size + 2) (e := 33) (size := 1) ((w.alloc (.cells #[.string s, .bool false] 24)).alloc (.cells #[.string { data := #[] }, .bool false] 24)) #[] 0 (by simp) (by decide) rfl
    simpa using this, fun r h => (by cases h)⟩
  have HW2 := Lib.hid hW2
  clear hW2
  unfold pipV at HI ⊢
  go_enter Tryd.func9, Tryd.ntmps9
  go_wp2_with (go_at_call 12; rw [HW2.out]; refine (HI.out _).mono ?_; rintro e w1 ⟨rfl, hb1⟩; rw [HBF.out]; have hk0 := kept2 K0.out hb1; have hk1 := kept2 K1.out hb1; obtain ⟨c0, c1⟩ := cells2 hk0; obtain ⟨d0, d1⟩ := cells2 hk1; have zf := row_free hk1; have HK1 := Lib.hid hk1; have HO1 := Lib.hid (HO0.out.below hb1); have hsz1 : w.heap.size + 3 ≤ w1.heap.size := (by have := hb1.size; omega); have HB1 := Lib.hid (HB0.out.trans (hb1.mono (by omega))); clear hk0 hk1 hb1)
  have hst : (s ++ t).size = s.size + t.size := by simp
  generalize hX : s ++ t = X at hst HR ⊢
  clear hX
  go_loopg [6, 7] (X.size + 1) (fun k v u wr => ∃ (L : ByteArray) (q : List Inn), u = .string L ∧ Hid (SR wr (w.heap.size + 2) v q) ∧ Hid (feedB X = ((feedB L).1, (feedB L).2.1, q.map (·.2) ++ (feedB L).2.2)) ∧ 8 * q.length + L.size ≤ 6000 ∧ L.size + 1 ≤ k ∧ Hid (Below (w.heap.size + 2) w1 wr))
  case atStart => exact ⟨X, [], rfl, HO1, Lib.hid (by simp), by simp; omega, Nat.le_refl _, Lib.hid (Below.refl _ _)⟩
  case round =>
    obtain ⟨L, q, rfl, HS, HE, hq, hk, HB⟩ := hrel
    obtain ⟨A0, cq, rfl⟩ := own_shape HS.out.out
    have HFG : Hid (∀ w : World, Calls Tryd.prog 31 #[.string L] w (SGo L w)) := Lib.hid (fun w => specFrameGet_own L w (by omega))
    obtain ⟨c, hc⟩ : ∃ c, (fg L).1 = c := ⟨_, rfl⟩
    have HC := Lib.hid hc
    have hcase : c < 0 ∨ c = 0 ∨ 0 < c := by omega
    have hk1r := (HB.out.block (w.heap.size + 1) (by omega)).trans HK1.out
    have HKR := Lib.hid hk1r
    clear hk1r
    have hszr := HB.out.size
    rcases hcase with h1 | h1 | h1
    · have HF1 : Hid ((fg L).1 < 0) := Lib.hid (by rw [hc]; exact h1)
      clear hc
      go_wp2_with fail
      refine (HFG.out _).mono ?_
      rintro e w4 ⟨A, cp, rfl, hst4, hnew, hb4⟩
      rw [HC.out]
      have hkr := kept2 HKR.out hb4
      obtain ⟨d0, d1⟩ := cells2 hkr
      have zf := row_free hkr
      have HK4 := Lib.hid hkr
      have HS4 := Lib.hid (HS.out.below hb4)
      have HB4 := Lib.hid (HB.out.trans (hb4.mono (by omega)))
      have HST := Lib.hid hst4
      have HNEW := Lib.hid hnew
      have hsz4 := hb4.size
      clear hkr hst4 hnew hb4
      go_wp2
      obtain ⟨wf, hwf, hrw, hbf⟩ := fin2 (.string ⟨#[]⟩) (.bool true) HK4.out (HB1.out.trans (HB4.out.mono (by omega))) (Nat.le_succ _)
      have hrf : RS wf (.slice A0 q.length cq) q := by
        rw [← hwf]
        exact ((HS4.out.set (by omega)).set (by omega)).reads
      have HRF := Lib.hid hrf
      rw [hwf]
      obtain ⟨e0, e1⟩ := cells2 hrw
      refine bodyPost_ret (v := .tuple #[.agg #[.string ⟨#[]⟩, .bool true], .slice A0 q.length cq]) (by simp [results, Tryd.results9, go_sem, e0, e1]) rfl ?_
      rw [HP.out]
      have hee := HE.out
      rw [feed_bad HF1.out] at hee
      exact ⟨_, q, by rw [HR.out, hee]; rfl, HRF.out, by rw [HR.out, hee]; simp, hbf⟩
    · subst h1
      clear hc
      go_wp2_with fail
      refine (HFG.out _).mono ?_
      rintro e w4 ⟨A, cp, rfl, hst4, hnew, hb4⟩
      rw [HC.out]
      have hkr := kept2 HKR.out hb4
      obtain ⟨d0, d1⟩ := cells2 hkr
      have zf := row_free hkr
      have HK4 := Lib.hid hkr
      have HS4 := Lib.hid (HS.out.below hb4)
      have HB4 := Lib.hid (HB.out.trans (hb4.mono (by omega)))
      have HST := Lib.hid hst4
      have HNEW := Lib.hid hnew
      have hsz4 := hb4.size
      clear hkr hst4 hnew hb4
      go_wp2
      obtain ⟨wf, hwf, hrw, hbf⟩ := fin2 (.string L) (.bool false) HK4.out (HB1.out.trans (HB4.out.mono (by omega))) (Nat.le_succ _)
      have hrf : RS wf (.slice A0 q.length cq) q := by
        rw [← hwf]
        exact ((HS4.out.set (by omega)).set (by omega)).reads
      have HRF := Lib.hid hrf
      rw [hwf]
      obtain ⟨e0, e1⟩ := cells2 hrw
      refine bodyPost_ret (v := .tuple #[.agg #[.string L, .bool false], .slice A0 q.length cq]) (by simp [results, Tryd.results9, go_sem, e0, e1]) rfl ?_
      rw [HP.out]
      have hee := HE.out
      rw [feed_wait HC.out] at hee
      exact ⟨_, q, by rw [HR.out, hee]; rfl, HRF.out, by rw [HR.out, hee]; simp, hbf⟩
    · obtain ⟨n, hn, h8, hle⟩ := fg_whole (s := L) (by omega)
      obtain rfl : c = (n : Int) := by omega
      have hn0 : ¬ (n : Int) < 0 := by omega
      have hn1 : ((n : Int) == 0) = false := by simp; omega
      clear hc hn
      go_wp2_with fail
      refine (HFG.out _).mono ?_
      rintro e w4 ⟨A, cp, rfl, hst4, hnew, hb4⟩
      rw [HC.out]
      have hkr := kept2 HKR.out hb4
      obtain ⟨d0, d1⟩ := cells2 hkr
      have zf := row_free hkr
      have HK4 := Lib.hid hkr
      have HS4 := Lib.hid (HS.out.below hb4)
      have HB4 := Lib.hid (HB.out.trans (hb4.mono (by omega)))
      have HST := Lib.hid hst4
      have HNEW := Lib.hid hnew
      have hsz4 := hb4.size
      clear hkr hst4 hnew hb4
      generalize hss : (fg L).2 = ss at HST HNEW ⊢
      have HSS := Lib.hid hss
      have HVB : Hid (∀ b, (Value.slice A0 q.length cq).ownBlock = some b → b < wr.heap.size) := Lib.hid (fun b hb => (HS.out.out.lt b hb).2)
      clear hss
      go_wp2_with (at_builtin; go_must (refine append_told rfl (.tmp 43) (.tmp 45) rfl (w.heap.size + 2) cp (.slice A0 q.length cq) A ss q w4 rfl rfl HS4.out HST.out (fun a ha hl => by have h1 := HNEW.out a ha hl; exact ⟨by omega, fun e => by have h2 := HVB.out a.block e.symm; omega⟩) (by omega) (by omega) ?_); intro A2 cp2 wn HSN HBN)
      go_roundg (L.size - n + 1)
      case measure => omega
      case rel =>
        have hcs := cut_size L n hle
        refine ⟨L.extract n L.size, q ++ [(.slice A ss.length cp, ss)], by simp, ?_, ?_, ?_, ?_, ?_⟩
        · exact HSN
        · refine Lib.hid ?_
          rw [HE.out, feed_more HC.out (by omega) hle, HSS.out]
          simp
        · rw [List.length_append, hcs]; simp; omega
        · rw [hcs]; exact Nat.le_refl _
        · exact Lib.hid (HB4.out.trans HBN.out)
theorem specPipeFeed_any (s : ByteArray) (b : Bool) (t : ByteArray) (w : World) (hs : s.size ≤ 1099511627776) (ht : t.size ≤ 1099511627776) :
    Calls Tryd.prog 9 #[pipV s b, .string t] w (PR s b t w) := by
  by_cases h : pipeB s b = false ∨ 4000 < t.size
  · exact specPipeFeed_no s b t w hs ht h
  · have hb : pipeB s b = true := by
      cases hb : pipeB s b
      · exact absurd (.inl hb) h
      · rfl
    cases b
    · exact specPipeFeed_fa s t w (pipe_small hb) (by omega) hb
    · exact specPipeFeed_tr s t w (by omega) hb
end Go.Proofs.YtfiiopchfmcjdabDoor

/- The laws' helper eqStringS, at equal lists. -/
namespace Go.Proofs.YtfiiopchfmcjdabDoor
open Go.RowKit

end Go.Proofs.YtfiiopchfmcjdabDoor

/- The laws' helpers on lists of lists of texts, and on pipes; bounds of what PipeFeed tells. -/
namespace Go.Proofs.YtfiiopchfmcjdabDoor
open Go.RowKit
theorem feedN_bounds : ∀ (k : Nat) (s : ByteArray), s.size ≤ 6000 → 8 * (feedN k s).2.2.length ≤ s.size ∧ (∀ l ∈ (feedN k s).2.2, l.length ≤ 6 ∧ ∀ x ∈ l, x.size ≤ 6000) ∧ (feedN k s).2.1.size ≤ s.size := by
  intro k
  induction k with
  | zero => intro s _; exact ⟨by simp [feedN], by intro l h; simp [feedN] at h, by simp [feedN]⟩
  | succ k ih =>
    intro s hs
    rw [feedN]
    by_cases h1 : (fg s).1 < 0
    · rw [if_pos h1]
      exact ⟨by simp, by intro l h; simp at h, Nat.zero_le _⟩
    · rw [if_neg h1]
      by_cases h2 : (fg s).1 = 0
      · rw [if_pos h2]
        exact ⟨by simp, by intro l h; simp at h, Nat.le_refl _⟩
      · rw [if_neg h2]
        obtain ⟨n, hn, h8, hle⟩ := fg_whole (s := s) (by omega)
        have hc : (s.extract (fg s).1.toNat s.size).size = s.size - n := by rw [hn]; exact cut_size s n hle
        obtain ⟨b1, b2, b3⟩ := ih (s.extract (fg s).1.toNat s.size) (by omega)
        refine ⟨?_, ?_, ?_⟩
        · simp only [List.length_cons]; omega
        · intro l h
          rcases List.mem_cons.1 h with rfl | h
          · exact ⟨fg_length s, fun x hx => by have := fg_size s x hx; omega⟩
          · exact b2 l h
        · simp only; omega
theorem pipeF_bounds (s : ByteArray) (b : Bool) (t : ByteArray) : (pipeF s b t).2.2.length ≤ 750 ∧ ∀ l ∈ (pipeF s b t).2.2, l.length ≤ 6 ∧ ∀ x ∈ l, x.size ≤ 6000 := by
  unfold pipeF
  split
  · exact ⟨by simp, by intro l h; simp at h⟩
  · rename_i h
    split
    · exact ⟨by simp, by intro l h; simp at h⟩
    · have hb : pipeB s b = true := by
        cases hb : pipeB s b
        · exact absurd (.inl hb) h
        · rfl
      have h1 := pipe_small hb
      have h2 : ¬ 4000 < t.size := fun h3 => h (.inr h3)
      have hsz : (s ++ t).size ≤ 5800 := by simp; omega
      obtain ⟨b1, b2, _⟩ := feedN_bounds ((s ++ t).size + 1) (s ++ t) (by omega)
      exact ⟨by unfold feedB; omega, b2⟩
end Go.Proofs.YtfiiopchfmcjdabDoor

/- What FrameGet answers of a frame, of a frame with bytes behind, and of less than a frame. -/
namespace Go.Proofs.YtfiiopchfmcjdabDoor
open Go.RowKit
theorem fr_len {ss : List ByteArray} (h : frOk ss = true) : (frameL ss).length = fgHead ss.length + tot ss := by
  rw [frameL, if_pos h, List.length_append, List.length_append, List.length_append, leB_length, numsL_length, bodyL_length, fillL, fgHead]
  split
  · rw [leB_length]; omega
  · simp; omega
theorem tot_le8 (ss : List ByteArray) (b : Nat) (h : ∀ s ∈ ss, s.size ≤ b) : tot ss ≤ ss.length * b := by
  induction ss with
  | nil => simp [tot]
  | cons a r ih =>
    have h1 := h a (by simp)
    have h2 := ih (fun s hs => h s (by simp [hs]))
    simp only [tot, List.map_cons, List.sum_cons, List.length_cons] at h2 ⊢
    rw [Nat.succ_mul]
    omega
theorem str_not_empty (X : ByteArray) (h : 1 ≤ X.size) : X.toList.isEmpty = false := by
  rw [ByteArray.toList_eq]
  cases hx : X.data.toList with
  | nil =>
    have h2 : X.data.toList.length = X.size := rfl
    rw [hx, List.length_nil] at h2
    omega
  | cons a r => rfl
theorem nums_at : ∀ (ss : List ByteArray) (i : Nat) (h : i < ss.length) (r : List UInt8), leN (numsL ss ++ r) (4 * i) 4 = leN (leB (((ss[i]).size / 8 : Nat) : Int) 4) 0 4
  | s :: ss, 0, _, r => by
    refine leN_congr _ _ 4 _ _ (fun j hj => ?_)
    rw [numsL, List.flatMap_cons, List.append_assoc, Nat.mul_zero, List.getElem?_append_left (by rw [leB_length]; omega)]
    rfl
  | s :: ss, i + 1, h, r => by
    have ih := nums_at ss i (by simpa using h) r
    rw [List.getElem_cons_succ, ← ih]
    refine leN_congr _ _ 4 _ _ (fun j hj => ?_)
    rw [numsL, List.flatMap_cons, List.append_assoc, List.getElem?_append_right (by rw [leB_length]; omega), leB_length, ← numsL]
    congr 1; omega
theorem leN_leB_small (n : Nat) (h : n < 4294967296) : leN (leB (n : Int) 4) 0 4 = n := by
  have e := leN_leB 4 (n : Int)
  rw [show (256 : Int) ^ 4 = 4294967296 from rfl] at e
  omega
theorem frOk_all {ss : List ByteArray} (h : frOk ss = true) : ss.all (fun s => decide (s.size % 8 = 0)) = true := by
  simp only [frOk, Bool.and_eq_true] at h
  exact h.2.1
theorem fillL_zero (n : Nat) : ∀ b ∈ fillL n, b = 0 := by
  intro b hb
  unfold fillL at hb
  split at hb
  · simp [leB] at hb; exact hb
  · cases hb
/-- what begins as a frame does. -/
theorem head_of {ss : List ByteArray} (hok : frOk ss = true) {l : List UInt8} (hl : ∀ j, j < fgHead ss.length → l[j]? = (frameL ss)[j]?) (h8 : fgHead ss.length ≤ l.length) :
    gN l 0 + 1 = ss.length ∧ szs l ss.length = ss.map (fun s => s.size / 8) ∧ fgZ l ss.length = true := by
  obtain ⟨⟨h1, h6⟩, htot⟩ := frOk_parts hok
  have hF : frameL ss = leB ((ss.length : Int) - 1) 4 ++ (numsL ss ++ (fillL ss.length ++ bodyL ss)) := by rw [frameL, if_pos hok, List.append_assoc, List.append_assoc]
  have hh : 4 * ss.length + 4 ≤ fgHead ss.length := by unfold fgHead; omega
  refine ⟨?_, ?_, ?_⟩
  · have e : gN l 0 = leN (leB (((ss.length - 1 : Nat) : Int)) 4) 0 4 := by
      refine leN_congr _ _ 4 _ _ (fun i hi => ?_)
      rw [hl _ (by omega), hF, List.getElem?_append_left (by rw [leB_length]; omega)]
      rw [show ((ss.length : Int) - 1) = ((ss.length - 1 : Nat) : Int) by omega]
    rw [e, leN_leB_small _ (by omega)]; omega
  · apply List.ext_getElem
    · rw [szs_length, List.length_map]
    · intro i hi1 hi2
      rw [szs_length] at hi1
      rw [List.getElem_map]
      have hsz := tot_get ss i hi1
      have e : (szs l ss.length)[i]'(by rw [szs_length]; exact hi1) = gN l (i + 1) := by simp [szs]
      rw [e, ← leN_leB_small ((ss[i]).size / 8) (by omega), ← nums_at ss i hi1 (fillL ss.length ++ bodyL ss)]
      refine leN_congr _ _ 4 _ _ (fun j hj => ?_)
      rw [hl _ (by omega), hF, List.getElem?_append_right (by rw [leB_length]; omega), leB_length]
      congr 1; omega
  · rw [fgZ, List.all_eq_true]
    intro b hb
    obtain ⟨i, hi, rfl⟩ := List.mem_iff_getElem.1 hb
    have hi2 : 4 * (ss.length + 1) + i < fgHead ss.length := by
      rw [List.length_drop, List.length_take] at hi; omega
    have hfl : (fillL ss.length).length = fgHead ss.length - 4 * (ss.length + 1) := by
      unfold fillL fgHead
      split
      · rw [leB_length]; omega
      · simp; omega
    have e : ((l.take (fgHead ss.length)).drop (4 * (ss.length + 1)))[i]? = (fillL ss.length)[i]? := by
      rw [List.getElem?_drop, List.getElem?_take_of_lt hi2, hl _ hi2, hF, List.getElem?_append_right (by rw [leB_length]; omega), leB_length, List.getElem?_append_right (by rw [numsL_length]; omega), numsL_length,
        List.getElem?_append_left (by omega)]
      congr 1; omega
    rw [List.getElem?_eq_getElem hi, List.getElem?_eq_getElem (by omega)] at e
    have e2 : ((l.take (fgHead ss.length)).drop (4 * (ss.length + 1)))[i] = (fillL ss.length)[i]'(by omega) := by simpa using e
    rw [e2]
    have := fillL_zero ss.length _ (List.getElem_mem (show i < (fillL ss.length).length by omega))
    rw [this]; rfl
theorem cut_body (s : ByteArray) : ∀ (ss : List ByteArray) (a : Nat) (r : List UInt8), s.data.toList.drop a = bodyL ss ++ r → ss.all (fun s => decide (s.size % 8 = 0)) = true → cutB s a (ss.map fun s => s.size / 8) = ss
  | [], _, _, _, _ => rfl
  | x :: ss, a, r, h, hw => by
    simp only [List.all_cons, Bool.and_eq_true, decide_eq_true_eq] at hw
    have hx : 8 * (x.size / 8) = x.size := by omega
    have hxl : x.data.toList.length = x.size := rfl
    rw [bodyL, List.flatMap_cons, List.append_assoc, ← bodyL] at h
    rw [List.map_cons, cutB, hx]
    congr 1
    · apply ext_ba
      rw [Lib.extract_data, h, show a + x.size - a = x.size by omega, List.take_append_of_le_length (by omega), List.take_of_length_le (by omega)]
    · refine cut_body s ss (a + x.size) r ?_ hw.2
      rw [← List.drop_drop, h, List.drop_append_of_le_length (by omega), List.drop_of_length_le (by omega), List.nil_append]
/-- a frame with whatever behind it. -/
theorem fg_frame {ss : List ByteArray} (hok : frOk ss = true) (s : ByteArray) (r : List UInt8) (h : s.data.toList = frameL ss ++ r) : fg s = (((frameL ss).length : Int), ss) := by
  obtain ⟨⟨h1, h6⟩, htot⟩ := frOk_parts hok
  have hlen := fr_len hok
  have hsl : s.data.toList.length = s.size := rfl
  rw [h, List.length_append] at hsl
  have hall := frOk_all hok
  have hw := wds_tot ss hall
  obtain ⟨g1, g2, g3⟩ := head_of hok (l := s.data.toList) (fun j hj => by rw [h, List.getElem?_append_left (by omega)]) (by rw [h, List.length_append]; omega)
  have h4 : 4 ≤ fgHead ss.length := by unfold fgHead; omega
  have hsum : (ss.map fun s => s.size / 8).sum = wds ss := rfl
  rw [fg5 g1 (by omega) h6 (by omega) g3 (by rw [g2, hsum]; omega) (by rw [g2, hsum]; omega), g2, hsum, hw, ← hlen]
  rw [cut_body s ss _ r ?_ hall]
  have hF : frameL ss = (leB ((ss.length : Int) - 1) 4 ++ numsL ss ++ fillL ss.length) ++ bodyL ss := by rw [frameL, if_pos hok]
  have hhl : (leB ((ss.length : Int) - 1) 4 ++ numsL ss ++ fillL ss.length).length = fgHead ss.length := by
    have := congrArg List.length hF
    rw [List.length_append, bodyL_length] at this
    omega
  rw [h, hF, List.append_assoc, List.drop_append_of_le_length (by omega), List.drop_of_length_le (by omega), List.nil_append]
/-- less than a frame. -/
theorem fg_part {ss : List ByteArray} (hok : frOk ss = true) (s : ByteArray) (k : Nat) (hk : k < (frameL ss).length) (h : s.data.toList = (frameL ss).take k) : fg s = (0, []) := by
  obtain ⟨⟨h1, h6⟩, htot⟩ := frOk_parts hok
  have hlen := fr_len hok
  have hsl : s.data.toList.length = s.size := rfl
  rw [h, List.length_take] at hsl
  have hall := frOk_all hok
  have hw := wds_tot ss hall
  by_cases h4 : s.size < 4
  · exact fg0 h4
  have hg0 : gN s.data.toList 0 + 1 = ss.length := by
    have hF : frameL ss = leB ((ss.length : Int) - 1) 4 ++ (numsL ss ++ (fillL ss.length ++ bodyL ss)) := by rw [frameL, if_pos hok, List.append_assoc, List.append_assoc]
    have e : gN s.data.toList 0 = leN (leB (((ss.length - 1 : Nat) : Int)) 4) 0 4 := by
      refine leN_congr _ _ 4 _ _ (fun i hi => ?_)
      rw [h, List.getElem?_take_of_lt (by omega), hF, List.getElem?_append_left (by rw [leB_length]; omega)]
      rw [show ((ss.length : Int) - 1) = ((ss.length - 1 : Nat) : Int) by omega]
    rw [e, leN_leB_small _ (by omega)]; omega
  by_cases hh : s.size < fgHead ss.length
  · exact fg2 hg0 (by omega) h6 hh
  obtain ⟨g1, g2, g3⟩ := head_of hok (l := s.data.toList) (fun j hj => by rw [h, List.getElem?_take_of_lt (by omega)]) (by rw [h, List.length_take]; omega)
  have hsum : (ss.map fun s => s.size / 8).sum = wds ss := rfl
  exact fg4 g1 (by omega) h6 (by omega) g3 (by rw [g2, hsum]; omega) (by rw [g2, hsum]; omega)
theorem fr_mod8 {ss : List ByteArray} (hok : frOk ss = true) : (frameL ss).length % 8 = 0 ∧ 8 ≤ (frameL ss).length ∧ (frameL ss).length ≤ 1632 := by
  obtain ⟨⟨h1, h6⟩, htot⟩ := frOk_parts hok
  have hlen := fr_len hok
  have hw := wds_tot ss (frOk_all hok)
  unfold fgHead at hlen
  omega
end Go.Proofs.YtfiiopchfmcjdabDoor
