/- spec.PipeFeed: what it answers. -/
import Derived.Test.YtliiffpegfkpbabDoorPipeFeedI
namespace Go.Proofs.YtliiffpegfkpbabDoor
open Go.RowKit
/-- a list of lists of texts, as it reads. -/
def RS (w : World) (v : Value) (q : List Inn) : Prop :=
  ∃ A c, v = .slice A q.length c ∧ Ones w A (q.map (·.1)) ∧ ∀ r ∈ q, ∃ A' c', r.1 = .slice A' r.2.length c' ∧ Strs w A' r.2
theorem RS.below {w w' : World} {v : Value} {q : List Inn} (h : RS w v q) (hb : Below w.heap.size w w') : RS w' v q := by
  obtain ⟨A, c, h1, h2, h3⟩ := h
  exact ⟨A, c, h1, h2.below hb, fun r hr => by obtain ⟨A', c', e, hs⟩ := h3 r hr; exact ⟨A', c', e, hs.below hb⟩⟩
theorem SS.reads {w : World} {B : Nat} {v : Value} {q : List Inn} (h : SS w B v q) (hs : ∀ r ∈ q, ∀ s ∈ r.2, s.size ≤ maxLen) : RS w v q := by
  obtain ⟨A, c, rfl⟩ := own_shape h.out
  refine ⟨A, c, rfl, Ones.own h.out, fun r hr => ?_⟩
  obtain ⟨A', c', e⟩ := own_shape (h.inn r hr)
  have hi := h.inn r hr
  rw [e] at hi
  exact ⟨A', c', e, strs_own hi (hs r hr)⟩
/-- a list that is made, of texts that lie elsewhere. -/
structure SR (w : World) (B : Nat) (v : Value) (q : List Inn) : Prop where
  out : w.ownsRow B 23 1 v q.length (q.map (·.1))
  inn : ∀ r ∈ q, ∃ A' c', r.1 = .slice A' r.2.length c' ∧ Strs w A' r.2 ∧ ∀ a, A' = some a → 0 < r.2.length → B ≤ a.block ∧ some a.block ≠ v.ownBlock
theorem SR.reads {w : World} {B : Nat} {v : Value} {q : List Inn} (h : SR w B v q) : RS w v q := by
  obtain ⟨A, c, rfl⟩ := own_shape h.out
  exact ⟨A, c, rfl, Ones.own h.out, fun r hr => by obtain ⟨A', c', e, hs, _⟩ := h.inn r hr; exact ⟨A', c', e, hs⟩⟩
theorem Strs.at_ {w w' : World} {A : Option Addr} {ss : List ByteArray} (h : Strs w A ss) (hsz : w.heap.size ≤ w'.heap.size) (hf : ∀ a, A = some a → 0 < ss.length → w'.heap[a.block]? = w.heap[a.block]?) : Strs w' A ss := by
  refine ⟨h.1, ?_⟩
  rcases h.2 with h0 | ⟨a, ha, hlt, hc⟩
  · exact .inl h0
  · by_cases h0 : ss = []
    · exact .inl h0
    · refine .inr ⟨a, ha, Nat.lt_of_lt_of_le hlt hsz, fun i hi => ?_⟩
      exact (World.cell?_of_block (a := a.add i) (by rw [add_block]; exact hf a ha (List.length_pos_iff.2 h0))).trans (hc i hi)
theorem SR.below {w w' : World} {B : Nat} {v : Value} {q : List Inn} (h : SR w B v q) (hb : Below w.heap.size w w') : SR w' B v q := by
  refine ⟨?_, fun r hr => ?_⟩
  · refine ⟨h.out.1, ?_⟩
    rcases h.out.2 with hn | ⟨g, cap, cur, rfl, h1, h2, h3⟩
    · exact .inl hn
    · exact .inr ⟨g, cap, cur, rfl, h1, (hb.block g (row_lt h2)).trans h2, h3⟩
  · obtain ⟨A', c', e, hs, hd⟩ := h.inn r hr
    exact ⟨A', c', e, hs.below hb, hd⟩
theorem strs_lt {w : World} {A : Option Addr} {ss : List ByteArray} (h : Strs w A ss) : ∀ a, A = some a → 0 < ss.length → a.block < w.heap.size := by
  intro a ha hl
  rcases h.2 with h0 | ⟨a', ha', hlt, _⟩
  · rw [h0] at hl; cases hl
  · rw [ha] at ha'; injection ha' with e; subst e; exact hlt
/-- a frame is put behind those that were told. -/
theorem append_told {ops : Array Oper} {rest : List Oper} {o : Oper} {a : Act} {Q : Exit → Act → World → Prop} (hgd : o.guard = none) (s x : Operand)
    (ho : o.op = .call { callee := .builtin .append, args := #[s, x], argTypes := #[34, 34] })
    (B cp : Nat) (told : Value) (A : Option Addr) (ss : List ByteArray) (q : List Inn) (w1 : World) (hs : a.eval s = told) (hx : a.eval x = .slice (some ⟨w1.heap.size, 0, none⟩) 1 1)
    (hS : SR w1 B told q) (hst : Strs w1 A ss) (hd : ∀ a, A = some a → 0 < ss.length → B ≤ a.block ∧ some a.block ≠ told.ownBlock) (hB : B ≤ w1.heap.size) (hq : q.length ≤ 10000)
    (h : ∀ A2 cp2 wn, Hid (SR wn B (.slice A2 (q.length + 1) cp2) (q ++ [(.slice A ss.length cp, ss)])) → Hid (Below B w1 wn) → wpList Tryd.prog ops Q rest (a.put o.dst (.slice A2 (q.length + 1) cp2)) wn) :
    wpList Tryd.prog ops Q (o :: rest) a (w1.alloc (.cells #[.slice A ss.length cp] 23)) := by
  obtain ⟨i0, hi, hz0, hz1, hz2⟩ := info_parts infoStrs
  refine wpList_append_own_at _ hgd s x 34 ho B 23 i0 (.slice none 0 0) 1 24 Tryd.underlying34 hi hz0 hz1 hz2 rfl (by decide) told _ _ hs (hS.out.alloc _) ⟨w1.heap.size, 0, none⟩ 1 1 [.slice A ss.length cp] hx rfl (cell_one_new _ _ _) (by simp [Value.oneCell']) (by unfold maxLen; omega) (by omega) (by simp <;> omega) ?_
  intro v' wn hown' hgrow _ hat
  obtain ⟨A2, cp2, rfl⟩ := own_shape hown'
  have hbig : (w1.alloc (.cells #[.slice A ss.length cp] 23)).heap.size = w1.heap.size + 1 := by simp
  have hsep : ∀ k, k < w1.heap.size → some k ≠ told.ownBlock → some k ≠ (Value.slice A2 (q.length + 1) cp2).ownBlock := fun k h1 h2 e => by
    rcases hat with e2 | e2
    · exact h2 (e.trans e2)
    · rw [e2] at e; injection e with e; omega
  have hkeep : ∀ k, k < w1.heap.size → some k ≠ told.ownBlock → wn.heap[k]? = w1.heap[k]? := fun k h1 h2 =>
    (hgrow.block k (by omega) h2).trans (heap_alloc_old w1 _ h1)
  have hstr : ∀ (A' : Option Addr) (zs : List ByteArray), Strs w1 A' zs → (∀ a, A' = some a → 0 < zs.length → B ≤ a.block ∧ some a.block ≠ told.ownBlock) → Strs wn A' zs ∧ ∀ a, A' = some a → 0 < zs.length → B ≤ a.block ∧ some a.block ≠ (Value.slice A2 (q.length + 1) cp2).ownBlock := fun A' zs h1 h2 =>
    ⟨h1.at_ (by have := hgrow.size; omega) (fun a ha hl => hkeep a.block (strs_lt h1 a ha hl) (h2 a ha hl).2), fun a ha hl => ⟨(h2 a ha hl).1, hsep a.block (strs_lt h1 a ha hl) (h2 a ha hl).2⟩⟩
  refine h A2 cp2 wn (Lib.hid ⟨by rw [List.length_append, List.map_append]; exact hown', fun r hr => ?_⟩) (Lib.hid (((Below.refl _ w1).alloc hB _).grown hgrow (by rw [hbig]; omega) (fun k hk => (hS.out.lt k hk).1)))
  rcases List.mem_append.1 hr with hr | hr
  · obtain ⟨A', c', e, h1, h2⟩ := hS.inn r hr
    obtain ⟨h3, h4⟩ := hstr A' r.2 h1 h2
    exact ⟨A', c', e, h3, h4⟩
  · obtain rfl := List.mem_singleton.1 hr
    obtain ⟨h3, h4⟩ := hstr A ss hst hd
    exact ⟨A, cp, rfl, h3, h4⟩
/-- a cell of another block is written. -/
theorem SR.set {w : World} {B g i : Nat} {u v : Value} {q : List Inn} (h : SR w B v q) (hg : g < B) : SR (w.setCell ⟨g, i, none⟩ u) B v q := by
  refine ⟨?_, fun r hr => ?_⟩
  · refine ⟨h.out.1, ?_⟩
    rcases h.out.2 with hn | ⟨k, cap, cur, rfl, h1, h2, h3⟩
    · exact .inl hn
    · exact .inr ⟨k, cap, cur, rfl, h1, (Below.heap_setCell w ⟨g, i, none⟩ u k (by show k ≠ g; omega)).trans h2, h3⟩
  · obtain ⟨A', c', e, hs, hd⟩ := h.inn r hr
    exact ⟨A', c', e, hs.at_ (by simp) (fun a ha hl => Below.heap_setCell w ⟨g, i, none⟩ u a.block (by show a.block ≠ g; have := (hd a ha hl).1; omega)), hd⟩
/-- what PipeFeed answers. -/
def PR (s : ByteArray) (b : Bool) (t : ByteArray) (w : World) (e : Ending) (w' : World) : Prop :=
  ∃ (v : Value) (q : List Inn), e = .returned (.tuple #[pipV (pipeF s b t).2.1 (pipeF s b t).1, v]) ∧ RS w' v q ∧ q.map (·.2) = (pipeF s b t).2.2 ∧ Below w.heap.size w w'
set_option maxHeartbeats 4000000 in
set_option maxRecDepth 100000 in
theorem specPipeFeed_no (s : ByteArray) (b : Bool) (t : ByteArray) (w : World) (hs : s.size ≤ 1099511627776) (ht : t.size ≤ 1099511627776) (hno : pipeB s b = false ∨ 4000 < t.size) :
    Calls Tryd.prog 21 #[pipV s b, .string t] w (PR s b t w) := by
  have hR : pipeF s b t = (false, ⟨#[]⟩, []) := by unfold pipeF; rw [if_pos hno]
  have HI := Lib.hid (fun w => specPipeOk_any s b w hs)
  have hpost : ∃ P : Ending → World → Prop, P = PR s b t w := ⟨_, rfl⟩
  obtain ⟨P, hP⟩ := hpost
  rw [← hP]
  have HP := Lib.hid hP
  have HR := Lib.hid hR
  clear hP hR
  obtain ⟨W2, hW2⟩ : ∃ W2, ((w.alloc (.cells #[.string s, .bool b] 33)).alloc (.cells #[.string { data := #[] }, .bool false] 33)).alloc (.cells #[] 23) = W2 := ⟨_, rfl⟩
  have hs2 : W2.heap.size = w.heap.size + 3 := by rw [← hW2]; simp
  have K0 : Hid (W2.heap[w.heap.size]? = some (.cells #[.string s, .bool b] 33 (0, 0))) := Lib.hid (by
    rw [← hW2]; exact (heap_alloc_old _ _ (by simp; omega)).trans ((heap_alloc_old _ _ (by simp)).trans (heap_alloc_new w _)))
  have K1 : Hid (W2.heap[w.heap.size + 1]? = some (.cells #[.string { data := #[] }, .bool false] 33 (0, 0))) := Lib.hid (by
    rw [← hW2]
    refine (heap_alloc_old _ _ (by simp)).trans ?_
    have := heap_alloc_new (w.alloc (.cells #[.string s, .bool b] 33)) (.cells #[.string { data := #[] }, .bool false] 33)
    simpa using this)
  have HB0 : Hid (Below w.heap.size w W2) := Lib.hid (by
    rw [← hW2]; exact (((Below.refl w.heap.size w).alloc (Nat.le_refl _) _).alloc (by simp) _).alloc (by simp; omega) _)
  have HO0 : Hid (SR W2 (w.heap.size + 2) (.slice (some ⟨w.heap.size + 2, 0, none⟩) 0 0) []) := Lib.hid ⟨by
    rw [← hW2]
    have := World.ownsRow_made (base := w.heap.size + 2) (e := 23) (size := 1) ((w.alloc (.cells #[.string s, .bool b] 33)).alloc (.cells #[.string { data := #[] }, .bool false] 33)) #[] 0 (by simp) (by decide) rfl
    simpa using this, fun r h => (by cases h)⟩
  have HW2 := Lib.hid hW2
  clear hW2
  cases hb : pipeB s b
  · have HBF := Lib.hid hb
    clear hb hno
    unfold pipV at HI ⊢
    go_enter Tryd.func21, Tryd.ntmps21
    go_wp2_with (go_at_call 18; rw [HW2.out]; refine (HI.out _).mono ?_; rintro e w1 ⟨rfl, hb1⟩; rw [HBF.out]; have hk0 := kept2 K0.out hb1; have hk1 := kept2 K1.out hb1; obtain ⟨c0, c1⟩ := cells2 hk0; obtain ⟨d0, d1⟩ := cells2 hk1; have zf := row_free hk1; have HK1 := Lib.hid hk1; have HO1 := Lib.hid (HO0.out.below hb1); have hsz1 : w.heap.size + 3 ≤ w1.heap.size := (by have := hb1.size; omega); have HB1 := Lib.hid (HB0.out.trans (hb1.mono (by omega))); clear hk0 hk1 hb1)
    obtain ⟨wf, hwf, hrw, hbf⟩ := fin2 (.string ⟨#[]⟩) (.bool false) HK1.out HB1.out (Nat.le_succ _)
    have hof : RS wf (.slice (some ⟨w.heap.size + 2, 0, none⟩) 0 0) [] := ⟨_, _, rfl, .inl rfl, fun r h => by cases h⟩
    rw [hwf]
    obtain ⟨e0, e1⟩ := cells2 hrw
    refine bodyPost_ret (v := .tuple #[.agg #[.string ⟨#[]⟩, .bool false], .slice (some ⟨w.heap.size + 2, 0, none⟩) 0 0]) (by simp [results, Tryd.results21, go_sem, e0, e1]) rfl ?_
    rw [HP.out]
    exact ⟨_, [], by rw [HR.out]; rfl, hof, by rw [HR.out]; rfl, hbf⟩
  · have hlong : (4000 : Int) < ((t.size : Nat) : Int) := by
      rcases hno with h | h
      · rw [hb] at h; cases h
      · omega
    have HBF := Lib.hid hb
    clear hb hno
    unfold pipV at HI ⊢
    go_enter Tryd.func21, Tryd.ntmps21
    go_wp2_with (go_at_call 18; rw [HW2.out]; refine (HI.out _).mono ?_; rintro e w1 ⟨rfl, hb1⟩; rw [HBF.out]; have hk0 := kept2 K0.out hb1; have hk1 := kept2 K1.out hb1; obtain ⟨c0, c1⟩ := cells2 hk0; obtain ⟨d0, d1⟩ := cells2 hk1; have zf := row_free hk1; have HK1 := Lib.hid hk1; have HO1 := Lib.hid (HO0.out.below hb1); have hsz1 : w.heap.size + 3 ≤ w1.heap.size := (by have := hb1.size; omega); have HB1 := Lib.hid (HB0.out.trans (hb1.mono (by omega))); clear hk0 hk1 hb1)
    obtain ⟨wf, hwf, hrw, hbf⟩ := fin2 (.string ⟨#[]⟩) (.bool false) HK1.out HB1.out (Nat.le_succ _)
    have hof : RS wf (.slice (some ⟨w.heap.size + 2, 0, none⟩) 0 0) [] := ⟨_, _, rfl, .inl rfl, fun r h => by cases h⟩
    rw [hwf]
    obtain ⟨e0, e1⟩ := cells2 hrw
    refine bodyPost_ret (v := .tuple #[.agg #[.string ⟨#[]⟩, .bool false], .slice (some ⟨w.heap.size + 2, 0, none⟩) 0 0]) (by simp [results, Tryd.results21, go_sem, e0, e1]) rfl ?_
    rw [HP.out]
    exact ⟨_, [], by rw [HR.out]; rfl, hof, by rw [HR.out]; rfl, hbf⟩
theorem size0 {s : ByteArray} (h : s.size = 0) : s = ⟨#[]⟩ := by
  obtain ⟨a⟩ := s
  have : a.size = 0 := h
  rw [Array.size_eq_zero_iff] at this
  rw [this]
set_option maxHeartbeats 4000000 in
set_option maxRecDepth 100000 in
theorem specPipeFeed_tr (s : ByteArray) (t : ByteArray) (w : World) (ht : t.size ≤ 4000) (hyes : pipeB s true = true) :
    Calls Tryd.prog 21 #[pipV s true, .string t] w (PR s true t w) := by
  obtain rfl : s = ⟨#[]⟩ := size0 (by
    unfold pipeB at hyes
    rw [if_pos rfl] at hyes
    simpa using hyes)
  have hR : pipeF ⟨#[]⟩ true t = (true, ⟨#[]⟩, []) := by unfold pipeF; rw [if_neg (by rw [hyes]; simp; omega), if_pos rfl]
  have HI := Lib.hid (fun w => specPipeOk_any ⟨#[]⟩ true w (by decide))
  have hshort : ¬ (4000 : Int) < ((t.size : Nat) : Int) := by omega
  have HBF := Lib.hid hyes
  clear hyes
  have hpost : ∃ P : Ending → World → Prop, P = PR ⟨#[]⟩ true t w := ⟨_, rfl⟩
  obtain ⟨P, hP⟩ := hpost
  rw [← hP]
  have HP := Lib.hid hP
  have HR := Lib.hid hR
  clear hP hR
  obtain ⟨W2, hW2⟩ : ∃ W2, ((w.alloc (.cells #[.string { data := #[] }, .bool true] 33)).alloc (.cells #[.string { data := #[] }, .bool false] 33)).alloc (.cells #[] 23) = W2 := ⟨_, rfl⟩
  have hs2 : W2.heap.size = w.heap.size + 3 := by rw [← hW2]; simp
  have K0 : Hid (W2.heap[w.heap.size]? = some (.cells #[.string { data := #[] }, .bool true] 33 (0, 0))) := Lib.hid (by
    rw [← hW2]; exact (heap_alloc_old _ _ (by simp; omega)).trans ((heap_alloc_old _ _ (by simp)).trans (heap_alloc_new w _)))
  have K1 : Hid (W2.heap[w.heap.size + 1]? = some (.cells #[.string { data := #[] }, .bool false] 33 (0, 0))) := Lib.hid (by
    rw [← hW2]
    refine (heap_alloc_old _ _ (by simp)).trans ?_
    have := heap_alloc_new (w.alloc (.cells #[.string { data := #[] }, .bool true] 33)) (.cells #[.string { data := #[] }, .bool false] 33)
    simpa using this)
  have HB0 : Hid (Below w.heap.size w W2) := Lib.hid (by
    rw [← hW2]; exact (((Below.refl w.heap.size w).alloc (Nat.le_refl _) _).alloc (by simp) _).alloc (by simp; omega) _)
  have HO0 : Hid (SR W2 (w.heap.size + 2) (.slice (some ⟨w.heap.size + 2, 0, none⟩) 0 0) []) := Lib.hid ⟨by
    rw [← hW2]
    have := World.ownsRow_made (base := w.heap.size + 2) (e := 23) (size := 1) ((w.alloc (.cells #[.string { data := #[] }, .bool true] 33)).alloc (.cells #[.string { data := #[] }, .bool false] 33)) #[] 0 (by simp) (by decide) rfl
    simpa using this, fun r h => (by cases h)⟩
  have HW2 := Lib.hid hW2
  clear hW2
  unfold pipV at HI ⊢
  go_enter Tryd.func21, Tryd.ntmps21
  go_wp2_with (go_at_call 18; rw [HW2.out]; refine (HI.out _).mono ?_; rintro e w1 ⟨rfl, hb1⟩; rw [HBF.out]; have hk0 := kept2 K0.out hb1; have hk1 := kept2 K1.out hb1; obtain ⟨c0, c1⟩ := cells2 hk0; obtain ⟨d0, d1⟩ := cells2 hk1; have zf := row_free hk1; have HK1 := Lib.hid hk1; have HO1 := Lib.hid (HO0.out.below hb1); have hsz1 : w.heap.size + 3 ≤ w1.heap.size := (by have := hb1.size; omega); have HB1 := Lib.hid (HB0.out.trans (hb1.mono (by omega))); clear hk0 hk1 hb1)
  obtain ⟨wf, hwf, hrw, hbf⟩ := fin2 (.string ⟨#[]⟩) (.bool true) HK1.out HB1.out (Nat.le_succ _)
  have hof : RS wf (.slice (some ⟨w.heap.size + 2, 0, none⟩) 0 0) [] := ⟨_, _, rfl, .inl rfl, fun r h => by cases h⟩
  rw [hwf]
  obtain ⟨e0, e1⟩ := cells2 hrw
  refine bodyPost_ret (v := .tuple #[.agg #[.string ⟨#[]⟩, .bool true], .slice (some ⟨w.heap.size + 2, 0, none⟩) 0 0]) (by simp [results, Tryd.results21, go_sem, e0, e1]) rfl ?_
  rw [HP.out]
  exact ⟨_, [], by rw [HR.out]; rfl, hof, by rw [HR.out]; rfl, hbf⟩
set_option maxHeartbeats 4000000 in
set_option maxRecDepth 100000 in
theorem specPipeFeed_fa (s : ByteArray) (t : ByteArray) (w : World) (hs : s.size ≤ 1800) (ht : t.size ≤ 4000) (hyes : pipeB s false = true) :
    Calls Tryd.prog 21 #[pipV s false, .string t] w (PR s false t w) := by
  have hR : pipeF s false t = feedB (s ++ t) := by unfold pipeF; rw [if_neg (by rw [hyes]; simp; omega), if_neg (by decide)]
  have HI := Lib.hid (fun w => specPipeOk_any s false w (by omega))
  have hshort : ¬ (4000 : Int) < ((t.size : Nat) : Int) := by omega
  have HBF := Lib.hid hyes
  clear hyes
  have hpost : ∃ P : Ending → World → Prop, P = PR s false t w := ⟨_, rfl⟩
  obtain ⟨P, hP⟩ := hpost
  rw [← hP]
  have HP := Lib.hid hP
  have HR := Lib.hid hR
  clear hP hR
  obtain ⟨W2, hW2⟩ : ∃ W2, ((w.alloc (.cells #[.string s, .bool false] 33)).alloc (.cells #[.string { data := #[] }, .bool false] 33)).alloc (.cells #[] 23) = W2 := ⟨_, rfl⟩
  have hs2 : W2.heap.size = w.heap.size + 3 := by rw [← hW2]; simp
  have K0 : Hid (W2.heap[w.heap.size]? = some (.cells #[.string s, .bool false] 33 (0, 0))) := Lib.hid (by
    rw [← hW2]; exact (heap_alloc_old _ _ (by simp; omega)).trans ((heap_alloc_old _ _ (by simp)).trans (heap_alloc_new w _)))
  have K1 : Hid (W2.heap[w.heap.size + 1]? = some (.cells #[.string { data := #[] }, .bool false] 33 (0, 0))) := Lib.hid (by
    rw [← hW2]
    refine (heap_alloc_old _ _ (by simp)).trans ?_
    have := heap_alloc_new (w.alloc (.cells #[.string s, .bool false] 33)) (.cells #[.string { data := #[] }, .bool false] 33)
    simpa using this)
  have HB0 : Hid (Below w.heap.size w W2) := Lib.hid (by
    rw [← hW2]; exact (((Below.refl w.heap.size w).alloc (Nat.le_refl _) _).alloc (by simp) _).alloc (by simp; omega) _)
  have HO0 : Hid (SR W2 (w.heap.size + 2) (.slice (some ⟨w.heap.size + 2, 0, none⟩) 0 0) []) := Lib.hid ⟨by
    rw [← hW2]
    have := World.ownsRow_made (base := w.heap.size + 2) (e := 23) (size := 1) ((w.alloc (.cells #[.string s, .bool false] 33)).alloc (.cells #[.string { data := #[] }, .bool false] 33)) #[] 0 (by simp) (by decide) rfl
    simpa using this, fun r h => (by cases h)⟩
  have HW2 := Lib.hid hW2
  clear hW2
  unfold pipV at HI ⊢
  go_enter Tryd.func21, Tryd.ntmps21
  go_wp2_with (go_at_call 18; rw [HW2.out]; refine (HI.out _).mono ?_; rintro e w1 ⟨rfl, hb1⟩; rw [HBF.out]; have hk0 := kept2 K0.out hb1; have hk1 := kept2 K1.out hb1; obtain ⟨c0, c1⟩ := cells2 hk0; obtain ⟨d0, d1⟩ := cells2 hk1; have zf := row_free hk1; have HK1 := Lib.hid hk1; have HO1 := Lib.hid (HO0.out.below hb1); have hsz1 : w.heap.size + 3 ≤ w1.heap.size := (by have := hb1.size; omega); have HB1 := Lib.hid (HB0.out.trans (hb1.mono (by omega))); clear hk0 hk1 hb1)
  have hst : (s ++ t).size = s.size + t.size := by simp
  generalize hX : s ++ t = X at hst HR ⊢
  clear hX
  go_loopg [6, 7] (X.size + 1) (fun k v u wr => ∃ (L : ByteArray) (q : List Inn), u = .string L ∧ Hid (SR wr (w.heap.size + 2) v q) ∧ Hid (feedB X = ((feedB L).1, (feedB L).2.1, q.map (·.2) ++ (feedB L).2.2)) ∧ 8 * q.length + L.size ≤ 6000 ∧ L.size + 1 ≤ k ∧ Hid (Below (w.heap.size + 2) w1 wr))
  case atStart => exact ⟨X, [], rfl, HO1, Lib.hid (by simp), by simp; omega, Nat.le_refl _, Lib.hid (Below.refl _ _)⟩
  case round =>
    obtain ⟨L, q, rfl, HS, HE, hq, hk, HB⟩ := hrel
    obtain ⟨A0, cq, rfl⟩ := own_shape HS.out.out
    have HFG : Hid (∀ w : World, Calls Tryd.prog 15 #[.string L] w (SGo L w)) := Lib.hid (fun w => specFrameGet_own L w (by omega))
    obtain ⟨c, hc⟩ : ∃ c, (fg L).1 = c := ⟨_, rfl⟩
    have HC := Lib.hid hc
    have hcase : c < 0 ∨ c = 0 ∨ 0 < c := by omega
    have hk1r := (HB.out.block (w.heap.size + 1) (by omega)).trans HK1.out
    have HKR := Lib.hid hk1r
    clear hk1r
    have hszr := HB.out.size
    rcases hcase with h1 | h1 | h1
    · have HF1 : Hid ((fg L).1 < 0) := Lib.hid (by rw [hc]; exact h1)
      clear hc
      go_wp2_with fail
      refine (HFG.out _).mono ?_
      rintro e w4 ⟨A, cp, rfl, hst4, hnew, hb4⟩
      rw [HC.out]
      have hkr := kept2 HKR.out hb4
      obtain ⟨d0, d1⟩ := cells2 hkr
      have zf := row_free hkr
      have HK4 := Lib.hid hkr
      have HS4 := Lib.hid (HS.out.below hb4)
      have HB4 := Lib.hid (HB.out.trans (hb4.mono (by omega)))
      have HST := Lib.hid hst4
      have HNEW := Lib.hid hnew
      have hsz4 := hb4.size
      clear hkr hst4 hnew hb4
      go_wp2
      obtain ⟨wf, hwf, hrw, hbf⟩ := fin2 (.string ⟨#[]⟩) (.bool true) HK4.out (HB1.out.trans (HB4.out.mono (by omega))) (Nat.le_succ _)
      have hrf : RS wf (.slice A0 q.length cq) q := by
        rw [← hwf]
        exact ((HS4.out.set (by omega)).set (by omega)).reads
      have HRF := Lib.hid hrf
      rw [hwf]
      obtain ⟨e0, e1⟩ := cells2 hrw
      refine bodyPost_ret (v := .tuple #[.agg #[.string ⟨#[]⟩, .bool true], .slice A0 q.length cq]) (by simp [results, Tryd.results21, go_sem, e0, e1]) rfl ?_
      rw [HP.out]
      have hee := HE.out
      rw [feed_bad HF1.out] at hee
      exact ⟨_, q, by rw [HR.out, hee]; rfl, HRF.out, by rw [HR.out, hee]; simp, hbf⟩
    · subst h1
      clear hc
      go_wp2_with fail
      refine (HFG.out _).mono ?_
      rintro e w4 ⟨A, cp, rfl, hst4, hnew, hb4⟩
      rw [HC.out]
      have hkr := kept2 HKR.out hb4
      obtain ⟨d0, d1⟩ := cells2 hkr
      have zf := row_free hkr
      have HK4 := Lib.hid hkr
      have HS4 := Lib.hid (HS.out.below hb4)
      have HB4 := Lib.hid (HB.out.trans (hb4.mono (by omega)))
      have HST := Lib.hid hst4
      have HNEW := Lib.hid hnew
      have hsz4 := hb4.size
      clear hkr hst4 hnew hb4
      go_wp2
      obtain ⟨wf, hwf, hrw, hbf⟩ := fin2 (.string L) (.bool false) HK4.out (HB1.out.trans (HB4.out.mono (by omega))) (Nat.le_succ _)
      have hrf : RS wf (.slice A0 q.length cq) q := by
        rw [← hwf]
        exact ((HS4.out.set (by omega)).set (by omega)).reads
      have HRF := Lib.hid hrf
      rw [hwf]
      obtain ⟨e0, e1⟩ := cells2 hrw
      refine bodyPost_ret (v := .tuple #[.agg #[.string L, .bool false], .slice A0 q.length cq]) (by simp [results, Tryd.results21, go_sem, e0, e1]) rfl ?_
      rw [HP.out]
      have hee := HE.out
      rw [feed_wait HC.out] at hee
      exact ⟨_, q, by rw [HR.out, hee]; rfl, HRF.out, by rw [HR.out, hee]; simp, hbf⟩
    · obtain ⟨n, hn, h8, hle⟩ := fg_whole (s := L) (by omega)
      obtain rfl : c = (n : Int) := by omega
      have hn0 : ¬ (n : Int) < 0 := by omega
      have hn1 : ((n : Int) == 0) = false := by simp; omega
      clear hc hn
      go_wp2_with fail
      refine (HFG.out _).mono ?_
      rintro e w4 ⟨A, cp, rfl, hst4, hnew, hb4⟩
      rw [HC.out]
      have hkr := kept2 HKR.out hb4
      obtain ⟨d0, d1⟩ := cells2 hkr
      have zf := row_free hkr
      have HK4 := Lib.hid hkr
      have HS4 := Lib.hid (HS.out.below hb4)
      have HB4 := Lib.hid (HB.out.trans (hb4.mono (by omega)))
      have HST := Lib.hid hst4
      have HNEW := Lib.hid hnew
      have hsz4 := hb4.size
      clear hkr hst4 hnew hb4
      generalize hss : (fg L).2 = ss at HST HNEW ⊢
      have HSS := Lib.hid hss
      have HVB : Hid (∀ b, (Value.slice A0 q.length cq).ownBlock = some b → b < wr.heap.size) := Lib.hid (fun b hb => (HS.out.out.lt b hb).2)
      clear hss
      go_wp2_with (at_builtin; go_must (refine append_told rfl (.tmp 43) (.tmp 45) rfl (w.heap.size + 2) cp (.slice A0 q.length cq) A ss q w4 rfl rfl HS4.out HST.out (fun a ha hl => by have h1 := HNEW.out a ha hl; exact ⟨by omega, fun e => by have h2 := HVB.out a.block e.symm; omega⟩) (by omega) (by omega) ?_); intro A2 cp2 wn HSN HBN)
      go_roundg (L.size - n + 1)
      case measure => omega
      case rel =>
        have hcs := cut_size L n hle
        refine ⟨L.extract n L.size, q ++ [(.slice A ss.length cp, ss)], by simp, ?_, ?_, ?_, ?_, ?_⟩
        · exact HSN
        · refine Lib.hid ?_
          rw [HE.out, feed_more HC.out (by omega) hle, HSS.out]
          simp
        · rw [List.length_append, hcs]; simp; omega
        · rw [hcs]; exact Nat.le_refl _
        · exact Lib.hid (HB4.out.trans HBN.out)
theorem specPipeFeed_any (s : ByteArray) (b : Bool) (t : ByteArray) (w : World) (hs : s.size ≤ 1099511627776) (ht : t.size ≤ 1099511627776) :
    Calls Tryd.prog 21 #[pipV s b, .string t] w (PR s b t w) := by
  by_cases h : pipeB s b = false ∨ 4000 < t.size
  · exact specPipeFeed_no s b t w hs ht h
  · have hb : pipeB s b = true := by
      cases hb : pipeB s b
      · exact absurd (.inl hb) h
      · rfl
    cases b
    · exact specPipeFeed_fa s t w (pipe_small hb) (by omega) hb
    · exact specPipeFeed_tr s t w (by omega) hb
end Go.Proofs.YtliiffpegfkpbabDoor
