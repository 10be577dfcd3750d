/- Texts of the proof of the law FnSendShort, side by side: part 8. -/
import Derived.Deep.MidRow
import Derived.Test.YtbijfkpilncclaaGreatMSendShort00
import Derived.Test.YtbijfkpilncclaaGreatMSendShort01
import Derived.Test.YtbijfkpilncclaaGreatMSendShort02
import Derived.Test.YtbijfkpilncclaaGreatMSendShort03
import Derived.Test.YtbijfkpilncclaaGreatMSendShort04
import Derived.Test.YtbijfkpilncclaaGreatMSendShort05
import Derived.Test.YtbijfkpilncclaaGreatMSendShort06
import Derived.Test.YtbijfkpilncclaaGreatMSendShort07
namespace Go.Proofs.YtbijfkpilncclaaGreat
open Go.RowKit
abbrev buT : TypeId := 57
abbrev sgT : TypeId := 116
abbrev psgT : TypeId := 114
abbrev wdT : TypeId := 91
structure KP (P : Nat → Prop) (w w' : World) : Prop where
  os : w'.os = w.os
  tape : w'.tape = w.tape
  output : w'.output = w.output
  size : w.heap.size ≤ w'.heap.size
  block : ∀ k, k < w.heap.size → ¬ P k → w'.heap[k]? = w.heap[k]?
theorem KP.refl (P : Nat → Prop) (w : World) : KP P w w := ⟨rfl, rfl, rfl, Nat.le_refl _, fun _ _ _ => rfl⟩
theorem KP.trans {P Q : Nat → Prop} {a b c : World} (h : KP P a b) (g : KP Q b c) (hQ : ∀ k, k < a.heap.size → Q k → P k) : KP P a c :=
  ⟨g.os.trans h.os, g.tape.trans h.tape, g.output.trans h.output, Nat.le_trans h.size g.size, fun k hk hn => (g.block k (Nat.lt_of_lt_of_le hk h.size) (fun q => hn (hQ k hk q))).trans (h.block k hk hn)⟩
theorem KP.of_below {P : Nat → Prop} {w w' : World} (h : Below w.heap.size w w') : KP P w w' := ⟨h.os, h.tape, h.output, h.size, fun k hk _ => h.block k hk⟩
theorem KP.below {P : Nat → Prop} {B : Nat} {w w' : World} (h : KP P w w') (hB : B ≤ w.heap.size) (hP : ∀ k, P k → B ≤ k) : Below B w w' :=
  ⟨h.os, h.tape, h.output, h.size, fun k hk => h.block k (Nat.lt_of_lt_of_le hk hB) (fun p => by have := hP k p; omega)⟩
theorem KP.set {P : Nat → Prop} {b : Nat} (hb : P b) (w : World) (i : Nat) (u : Value) : KP P w (w.setCell ⟨b, i, none⟩ u) :=
  ⟨rfl, rfl, rfl, by simp [World.setCell], fun k _ hk => Below.heap_setCell w ⟨b, i, none⟩ u k (fun e => hk (by rw [e]; exact hb))⟩
theorem drop_len (P D : List Value) (n k : Nat) (h : P.length = n) : (P ++ D).drop (n + k) = D.drop k := by
  subst h
  rw [← List.drop_drop, List.drop_left' rfl]
theorem list_sets (L : List Value) (o : Nat) (v : Value) (r : List Value) (h : o < L.length) : (L.set o v).take (o + 1) ++ r ++ (L.set o v).drop (o + 1 + r.length) = L.take o ++ (v :: r) ++ L.drop (o + (v :: r).length) := by
  obtain ⟨A, x, D, rfl, hA⟩ : ∃ A x D, L = A ++ x :: D ∧ A.length = o := ⟨L.take o, L[o], L.drop (o + 1), by rw [List.getElem_cons_drop, List.take_append_drop], by simp; omega⟩
  subst hA
  have e1 : (A ++ x :: D).set A.length v = (A ++ [v]) ++ D := by simp [List.set_append]
  have e2 : A ++ x :: D = (A ++ [x]) ++ D := by simp
  have e3 : ((A ++ [x]) ++ D).take A.length = A := by rw [← e2]; exact List.take_left' rfl
  rw [e1, List.take_left' (by simp), drop_len (A ++ [v]) D (A.length + 1) r.length (by simp), e2, e3,
    show A.length + (v :: r).length = (A.length + 1) + r.length by simp; omega, drop_len (A ++ [x]) D (A.length + 1) r.length (by simp)]
  simp
theorem setCells_row : ∀ (vs : List Value) (g o : Nat) (w : World) (cur : Array Value) (T : TypeId), w.heap[g]? = some (.cells cur T (0, 0)) → o + vs.length ≤ cur.size →
    (w.setCells g o vs).heap[g]? = some (.cells (cur.toList.take o ++ vs ++ cur.toList.drop (o + vs.length)).toArray T (0, 0))
  | [], g, o, w, cur, T, h, _ => by
    rw [World.setCells, h]
    simp
  | v :: r, g, o, w, cur, T, h, hl => by
    rw [World.setCells]
    have h1 := row_setN h o v
    have h2 := setCells_row r g (o + 1) _ _ T h1 (by simp at hl ⊢; omega)
    rw [h2]
    congr 3
    rw [Array.toList_setIfInBounds]
    exact list_sets _ _ _ _ (by simp at hl ⊢; omega)
theorem setCells_other : ∀ (vs : List Value) (g o : Nat) (w : World) (k : Nat), k ≠ g → (w.setCells g o vs).heap[k]? = w.heap[k]?
  | [], _, _, _, _, _ => rfl
  | v :: r, g, o, w, k, h => by rw [World.setCells, setCells_other r g (o + 1) _ k h, Below.heap_setCell w ⟨g, o, none⟩ v k h]
theorem setCells_size : ∀ (vs : List Value) (g o : Nat) (w : World), (w.setCells g o vs).heap.size = w.heap.size
  | [], _, _, _ => rfl
  | v :: r, g, o, w => by rw [World.setCells, setCells_size r g (o + 1)]; simp [World.setCell]
theorem setCells_os : ∀ (vs : List Value) (g o : Nat) (w : World), (w.setCells g o vs).os = w.os ∧ (w.setCells g o vs).tape = w.tape ∧ (w.setCells g o vs).output = w.output
  | [], _, _, _ => ⟨rfl, rfl, rfl⟩
  | v :: r, g, o, w => by rw [World.setCells]; exact setCells_os r g (o + 1) _
theorem KP.sets {P : Nat → Prop} {b : Nat} (hb : P b) (w : World) (i : Nat) (vs : List Value) : KP P w (w.setCells b i vs) :=
  ⟨(setCells_os vs b i w).1, (setCells_os vs b i w).2.1, (setCells_os vs b i w).2.2, Nat.le_of_eq (setCells_size vs b i w).symm, fun k _ hk => setCells_other vs b i w k (fun e => hk (by rw [e]; exact hb))⟩
structure Bu (w : World) (base b size W : Nat) (ss : Segs) (row : Value) (g : Nat → Nat) (v : Nat → Value) : Prop where
  hb : w.heap[b]? = some (.cells #[row, .int .i64 size, .int .i64 (W : Nat)] buT (0, 0))
  hr : w.ownsRow base psgT 1 row ss.length ((List.range ss.length).map fun i => Value.pointer (some ⟨g i, 0, none⟩))
  hg : ∀ i, i < ss.length → w.heap[g i]? = some (.cells #[v i] sgT (0, 0))
  ho : ∀ i, i < ss.length → w.ownsRow base wdT 8 (v i) (wn (sgS ss i)) (Lib.byteCells (sgS ss i))
  gi : ∀ i j, i < ss.length → j < ss.length → g i = g j → i = j
  vi : ∀ i j k, i < ss.length → j < ss.length → (v i).ownBlock = some k → (v j).ownBlock = some k → i = j
  lo : base ≤ b
  gl : ∀ i, i < ss.length → base ≤ g i
def Bk (b : Nat) (row : Value) (g : Nat → Nat) (v : Nat → Value) (n k : Nat) : Prop := k = b ∨ row.ownBlock = some k ∨ ∃ i, i < n ∧ (k = g i ∨ (v i).ownBlock = some k)
def Bun (w : World) (base b size : Nat) (ss : Segs) (P : Nat → Prop) : Prop := ∃ row g v, Bu w base b size (totS ss) ss row g v ∧ ∀ k, Bk b row g v ss.length k → P k
theorem own_keepB {w w' : World} {B T sz n : Nat} {v : Value} {xs : List Value} (h : w.ownsRow B T sz v n xs) (hb : ∀ k, v.ownBlock = some k → w'.heap[k]? = w.heap[k]?) : w'.ownsRow B T sz v n xs := by
  refine ⟨h.1, ?_⟩
  rcases h.2 with hv | ⟨g, cap, cur, rfl, h1, h2, h3⟩
  · exact .inl hv
  · exact .inr ⟨g, cap, cur, rfl, h1, (hb g rfl).trans h2, h3⟩
theorem Bu.keep {w w' : World} {base b size W : Nat} {ss : Segs} {row : Value} {g : Nat → Nat} {v : Nat → Value} (h : Bu w base b size W ss row g v) (hk : ∀ k, Bk b row g v ss.length k → w'.heap[k]? = w.heap[k]?) : Bu w' base b size W ss row g v :=
  ⟨(hk b (.inl rfl)).trans h.hb, own_keepB h.hr (fun k e => hk k (.inr (.inl e))), fun i hi => (hk _ (.inr (.inr ⟨i, hi, .inl rfl⟩))).trans (h.hg i hi), fun i hi => own_keepB (h.ho i hi) (fun k e => hk k (.inr (.inr ⟨i, hi, .inr e⟩))), h.gi, h.vi, h.lo, h.gl⟩
theorem Bu.lt {w : World} {base b size W : Nat} {ss : Segs} {row : Value} {g : Nat → Nat} {v : Nat → Value} (h : Bu w base b size W ss row g v) : ∀ k, Bk b row g v ss.length k → base ≤ k ∧ k < w.heap.size := by
  rintro k (rfl | e | ⟨i, hi, rfl | e⟩)
  · exact ⟨h.lo, row_lt h.hb⟩
  · exact h.hr.lt k e
  · exact ⟨h.gl i hi, row_lt (h.hg i hi)⟩
  · exact (h.ho i hi).lt k e
theorem Bun.low {w w' : World} {base b size : Nat} {ss : Segs} {P : Nat → Prop} (h : Bun w base b size ss P) (hb : Below w.heap.size w w') : Bun w' base b size ss P := by
  obtain ⟨row, g, v, hB, hP⟩ := h
  exact ⟨row, g, v, hB.keep (fun k hk => hb.block k (hB.lt k hk).2), hP⟩
theorem Bun.weak {w : World} {base b size : Nat} {ss : Segs} {P Q : Nat → Prop} (h : Bun w base b size ss P) (hQ : ∀ k, P k → Q k) : Bun w base b size ss Q := by
  obtain ⟨row, g, v, hB, hP⟩ := h
  exact ⟨row, g, v, hB, fun k hk => hQ k (hP k hk)⟩
theorem Bun.tight {w : World} {base b size : Nat} {ss : Segs} {P : Nat → Prop} (h : Bun w base b size ss P) : Bun w base b size ss (fun k => P k ∧ base ≤ k ∧ k < w.heap.size) := by
  obtain ⟨row, g, v, hB, hP⟩ := h
  exact ⟨row, g, v, hB, fun k hk => ⟨hP k hk, hB.lt k hk⟩⟩
theorem own_cases {w : World} {B T sz n : Nat} {v : Value} {xs : List Value} (h : w.ownsRow B T sz v n xs) (hn : 0 < n) : ∃ g cap cur, v = .slice (some ⟨g, 0, none⟩) n cap ∧ B ≤ g ∧ w.heap[g]? = some (.cells cur T (0, 0)) ∧ n ≤ cap ∧ cap ≤ maxLen ∧ cur.size = cap * sz ∧ cur.toList.take (n * sz) = xs := by
  rcases h.2 with ⟨_, h0⟩ | ⟨g, cap, cur, h1, h2⟩
  · omega
  · exact ⟨g, cap, cur, h1, h2⟩
theorem Bu.row {w : World} {base b size W : Nat} {ss : Segs} {row : Value} {g : Nat → Nat} {v : Nat → Value} (h : Bu w base b size W ss row g v) {i : Nat} (hi : i < ss.length) :
    ∃ r cap, row = .slice (some ⟨r, 0, none⟩) ss.length cap ∧ ∀ j, j < ss.length → w.cell? ⟨r, j, none⟩ = some (.pointer (some ⟨g j, 0, none⟩)) := by
  obtain ⟨r, cap, cur, h1, h2, h3, h4, h5, h6, h7⟩ := own_cases h.hr (by omega)
  refine ⟨r, cap, h1, fun j hj => ?_⟩
  have := h.hr.cells (g := r) (by rw [h1]; rfl) j (.pointer (some ⟨g j, 0, none⟩)) (by simp [hj])
  rwa [add_zero0] at this
theorem Bu.seg {w : World} {base b size W : Nat} {ss : Segs} {row : Value} {g : Nat → Nat} {v : Nat → Value} (h : Bu w base b size W ss row g v) {i : Nat} (hi : i < ss.length) : ∃ A cap, v i = .slice A (wn (sgS ss i)) cap ∧ w.cell? ⟨g i, 0, none⟩ = some (v i) ∧ w.frozen? ⟨g i, 0, none⟩ = false := by
  have hc : w.cell? ⟨g i, 0, none⟩ = some (v i) := by rw [cell_of_row _ _ _ _ _ _ (h.hg i hi)]; rfl
  rcases (h.ho i hi).2 with ⟨h1, h2⟩ | ⟨x, cap, cur, h1, _⟩
  · exact ⟨none, 0, by rw [h1, h2], hc, row_free (h.hg i hi) 0⟩
  · exact ⟨_, cap, h1, hc, row_free (h.hg i hi) 0⟩
theorem cells3 {w : World} {g : Nat} {v0 v1 v2 : Value} {T : TypeId} (h : w.heap[g]? = some (.cells #[v0, v1, v2] T (0, 0))) : w.cell? ⟨g, 0, none⟩ = some v0 ∧ w.cell? ⟨g, 1, none⟩ = some v1 ∧ w.cell? ⟨g, 2, none⟩ = some v2 := by
  refine ⟨?_, ?_, ?_⟩ <;> (rw [cell_of_row _ _ _ _ _ _ h]; rfl)
theorem byteCells_len (l : List UInt8) : (Lib.byteCells l).length = l.length := by simp [Lib.byteCells]
theorem byteCells_app (a b : List UInt8) : Lib.byteCells (a ++ b) = Lib.byteCells a ++ Lib.byteCells b := by simp [Lib.byteCells]
theorem byteCells_spl (s t : List UInt8) (p : Nat) : Lib.byteCells (spl s p t) = (Lib.byteCells s).take p ++ Lib.byteCells t ++ (Lib.byteCells s).drop (p + (Lib.byteCells t).length) := by
  unfold spl
  rw [byteCells_app, byteCells_app, byteCells_len]
  simp [Lib.byteCells, List.map_take, List.map_drop]
theorem take_spl {L xs vs : List Value} {n o : Nat} (h : L.take n = xs) (hl : xs.length = n) (ho : o + vs.length ≤ n) :
    (L.take o ++ vs ++ L.drop (o + vs.length)).take n = xs.take o ++ vs ++ xs.drop (o + vs.length) := by
  obtain ⟨r, rfl⟩ : ∃ r, L = xs ++ r := ⟨L.drop n, by rw [← h, List.take_append_drop]⟩
  have e1 : (xs ++ r).take o = xs.take o := List.take_append_of_le_length (by omega)
  have e2 : (xs ++ r).drop (o + vs.length) = xs.drop (o + vs.length) ++ r := List.drop_append_of_le_length (by omega)
  rw [e1, e2, ← List.append_assoc]
  exact List.take_left' (by simp; omega)
theorem own_T {w : World} {B T sz n k : Nat} {v : Value} {xs : List Value} (h : w.ownsRow B T sz v n xs) (e : v.ownBlock = some k) : ∃ cur, w.heap[k]? = some (.cells cur T (0, 0)) := by
  rcases h.2 with ⟨rfl, _⟩ | ⟨g, cap, cur, rfl, h1, h2, h3⟩
  · cases e
  · injection e with e
    subst e
    exact ⟨cur, h2⟩
theorem ne_T {w : World} {a b : Nat} {x y : Array Value} {T U : TypeId} (ha : w.heap[a]? = some (.cells x T (0, 0))) (hb : w.heap[b]? = some (.cells y U (0, 0))) (hT : T ≠ U) : a ≠ b := by
  rintro rfl
  rw [ha] at hb
  injection hb with hb
  injection hb with _ h2
  exact hT h2
theorem Bu.putAt {w : World} {base b size W : Nat} {ss : Segs} {row : Value} {g : Nat → Nat} {v : Nat → Value} (h : Bu w base b size W ss row g v) {i : Nat} (hi : i < ss.length) {o : Nat} {t : List UInt8} (ha : o + t.length ≤ (sgS ss i).length) (x n cap : Nat) (hv : v i = .slice (some ⟨x, 0, none⟩) n cap) :
    Bu (w.setCells x o (Lib.byteCells t)) base b size W (ss.set i (spl (sgS ss i) o t)) row g v := by
  obtain ⟨cur, hx⟩ := own_T (h.ho i hi) (k := x) (by rw [hv]; rfl)
  have hne : ∀ (k : Nat) (y : Array Value) (T : TypeId), w.heap[k]? = some (Obj.cells y T (0, 0)) → T ≠ wdT → (w.setCells x o (Lib.byteCells t)).heap[k]? = w.heap[k]? := fun k y T hk hT => setCells_other _ _ _ _ _ (ne_T hk hx hT)
  have hlen : (ss.set i (spl (sgS ss i) o t)).length = ss.length := by simp
  have hal := spl_alen (t := t) hi ha
  refine ⟨?_, ?_, fun j hj => ?_, fun j hj => ?_, by rw [hlen]; exact h.gi, by rw [hlen]; exact h.vi, h.lo, by rw [hlen]; exact h.gl⟩
  · exact (hne _ _ _ h.hb (by decide)).trans h.hb
  · rw [hlen]
    exact own_keepB h.hr (fun k e => by obtain ⟨c, hc⟩ := own_T h.hr e; exact hne _ _ _ hc (by decide))
  · rw [hlen] at hj
    exact (hne _ _ _ (h.hg j hj) (by decide)).trans (h.hg j hj)
  · rw [hlen] at hj
    have hw : wn (sgS (ss.set i (spl (sgS ss i) o t)) j) = wn (sgS ss j) := by unfold wn; rw [← hal.2 j]
    rw [hw]
    by_cases e : j = i
    · subst e
      have h1 := h.ho j hj
      have hsg : sgS (ss.set j (spl (sgS ss j) o t)) j = spl (sgS ss j) o t := by rw [sgS_set hi, if_pos rfl]
      rw [hsg, byteCells_spl]
      have hl8 : (Lib.byteCells (sgS ss j)).length = wn (sgS ss j) * 8 := h1.1
      rw [byteCells_len] at hl8
      refine ⟨?_, ?_⟩
      · rw [← byteCells_spl, byteCells_len, spl_length ha]; exact hl8
      · rcases h1.2 with ⟨h2, _⟩ | ⟨y, cp, cu, h2, h3, h4, h5, h6, h7, h8⟩
        · rw [hv] at h2; cases h2
        · obtain rfl : x = y := by rw [hv] at h2; injection h2 with h2; injection h2 with h2; injection h2
          have hcs : o + (Lib.byteCells t).length ≤ cu.size := by
            rw [byteCells_len]
            have : (cu.toList.take (wn (sgS ss j) * 8)).length = wn (sgS ss j) * 8 := by rw [h8, byteCells_len]; exact hl8
            rw [List.length_take] at this
            simp at this
            omega
          refine .inr ⟨x, cp, _, h2, h3, setCells_row _ x o w cu wdT h4 hcs, h5, h6, ?_, ?_⟩
          · simp only [List.size_toArray, List.length_append, List.length_take, List.length_drop, Array.length_toList]
            omega
          · exact take_spl h8 (by rw [byteCells_len]; exact hl8) (by rw [byteCells_len]; omega)
    · have hsg : sgS (ss.set i (spl (sgS ss i) o t)) j = sgS ss j := by rw [sgS_set hi, if_neg e]
      rw [hsg]
      exact own_keepB (h.ho j hj) (fun k ek => setCells_other _ _ _ _ _ (fun e2 => e (h.vi j i k hj hi ek (by rw [hv, e2]; rfl))))
theorem Bu.put {w : World} {base b size W : Nat} {ss : Segs} {row : Value} {g : Nat → Nat} {v : Nat → Value} (h : Bu w base b size W ss row g v) {i : Nat} (hi : i < ss.length) {a : Nat} {t : List UInt8} (ha : 8 * a + t.length ≤ (sgS ss i).length) (x n cap : Nat) (hv : v i = .slice (some ⟨x, 0, none⟩) n cap) :
    Bu (w.setCells x (8 * a) (Lib.byteCells t)) base b size W (putS ss i a t) row g v := h.putAt hi ha x n cap hv
theorem Bu.grow {w w1 : World} {base b size W : Nat} {ss : Segs} {row : Value} {g : Nat → Nat} {v : Nat → Value} (h : Bu w base b size W ss row g v) (hBw : base ≤ w.heap.size) {i k : Nat} (hi : i < ss.length) (hw8 : WdS ss) (v' : Value)
    (hown : w1.ownsRow base wdT 8 v' (wn (sgS ss i) + k) (Lib.byteCells (sgS ss i) ++ List.replicate (8 * k) (.int .u8 0))) (hgrow : w.grownBy w1 (v i).ownBlock) (hat : v'.ownBlock = (v i).ownBlock ∨ v'.ownBlock = some w.heap.size) :
    Bu (w1.setCell ⟨g i, 0, none⟩ v') base b size W (growB ss i k) row g (fun j => if j = i then v' else v j) := by
  have hlen := growB_length ss i k
  have hgi : w1.heap[g i]? = some (.cells #[v i] sgT (0, 0)) := (hgrow.block _ (row_lt (h.hg i hi)) (fun e => by
    obtain ⟨c, hc⟩ := own_T (h.ho i hi) e.symm
    exact ne_T (h.hg i hi) hc (by decide) rfl)).trans (h.hg i hi)
  have hne : ∀ (m : Nat) (y : Array Value) (T : TypeId), w.heap[m]? = some (Obj.cells y T (0, 0)) → some m ≠ (v i).ownBlock → m ≠ g i → (w1.setCell ⟨g i, 0, none⟩ v').heap[m]? = w.heap[m]? := fun m y T hm h1 h2 =>
    (Below.heap_setCell w1 ⟨g i, 0, none⟩ v' m h2).trans (hgrow.block m (row_lt hm) h1)
  have hvT : ∀ (m : Nat) (y : Array Value) (T : TypeId), w.heap[m]? = some (Obj.cells y T (0, 0)) → T ≠ wdT → some m ≠ (v i).ownBlock := fun m y T hm hT e => by
    obtain ⟨c, hc⟩ := own_T (h.ho i hi) e.symm
    exact ne_T hm hc hT rfl
  have hbl : ∀ m, Bk b row g v ss.length m → base ≤ m := by
    rintro m (rfl | e | ⟨j, hj, rfl | e⟩)
    · exact h.lo
    · exact (h.hr.lt m e).1
    · exact h.gl j hj
    · exact ((h.ho j hj).lt m e).1
  refine ⟨?_, ?_, fun j hj => ?_, fun j hj => ?_, by rw [hlen]; exact h.gi, ?_, h.lo, by rw [hlen]; exact h.gl⟩
  · exact (hne _ _ _ h.hb (hvT _ _ _ h.hb (by decide)) (ne_T h.hb (h.hg i hi) (by decide))).trans h.hb
  · rw [hlen]
    exact own_keepB h.hr (fun m e => by obtain ⟨c, hc⟩ := own_T h.hr e; exact hne _ _ _ hc (hvT _ _ _ hc (by decide)) (ne_T hc (h.hg i hi) (by decide)))
  · rw [hlen] at hj
    by_cases e : j = i
    · subst e
      rw [if_pos rfl]
      exact row_setN hgi 0 v'
    · rw [if_neg e]
      exact (hne _ _ _ (h.hg j hj) (hvT _ _ _ (h.hg j hj) (by decide)) (fun x => e (h.gi j i hj hi x))).trans (h.hg j hj)
  · rw [hlen] at hj
    by_cases e : j = i
    · subst e
      rw [if_pos rfl, wn_grow hi, sgS_grow hi, if_pos rfl, byteCells_app]
      have hz : Lib.byteCells (zer k) = List.replicate (8 * k) (.int .u8 0) := by simp [Lib.byteCells, zer]
      rw [hz]
      refine own_keepB hown (fun m em => Below.heap_setCell w1 ⟨g j, 0, none⟩ v' m ?_)
      intro e2
      rw [e2] at em
      obtain ⟨c, hc⟩ := own_T hown em
      exact ne_T hgi hc (by decide) rfl
    · rw [if_neg e, sgS_grow hi, if_neg e]
      refine own_keepB (h.ho j hj) (fun m em => ?_)
      obtain ⟨c, hc⟩ := own_T (h.ho j hj) em
      exact hne _ _ _ hc (fun x => e (h.vi j i m hj hi em x.symm)) (fun x => by rw [x] at hc; exact ne_T (h.hg i hi) hc (by decide) rfl)
  · rw [hlen]
    intro j l m hj hl
    have hnew : ∀ j, j < ss.length → j ≠ i → (v j).ownBlock = some m → v'.ownBlock = some m → False := fun j hj hne e1 e2 => by
      rcases hat with e | e
      · exact hne (h.vi j i m hj hi e1 (by rw [← e]; exact e2))
      · rw [e] at e2
        injection e2 with e2
        have := ((h.ho j hj).lt m e1).2
        omega
    by_cases ej : j = i <;> by_cases el : l = i
    · intro _ _; rw [ej, el]
    · rw [if_pos ej, if_neg el]; intro e1 e2; exact (hnew l hl el e2 e1).elim
    · rw [if_neg ej, if_pos el]; intro e1 e2; exact (hnew j hj ej e1 e2).elim
    · rw [if_neg ej, if_neg el]; exact h.vi j l m hj hl
theorem Bu.more {w wa w1 : World} {base b size W : Nat} {ss : Segs} {row : Value} {g : Nat → Nat} {v : Nat → Value} (h : Bu w base b size W ss row g v) (hBw : base ≤ w.heap.size) (hwa : Below w.heap.size w wa) (hwn : wa.heap[w.heap.size]? = some (.cells #[.slice none 0 0] sgT (0, 0))) (row' : Value)
    (hown : w1.ownsRow base psgT 1 row' (ss.length + 1) (((List.range ss.length).map fun i => Value.pointer (some ⟨g i, 0, none⟩)) ++ [.pointer (some ⟨w.heap.size, 0, none⟩)]))
    (hgrow : wa.grownBy w1 row.ownBlock) :
    Bu (w1.setCell ⟨b, 0, none⟩ row') base b size W (ss ++ [[]]) row' (fun j => if j = ss.length then w.heap.size else g j) (fun j => if j = ss.length then .slice none 0 0 else v j) := by
  have hnew : w1.heap[w.heap.size]? = some (.cells #[.slice none 0 0] sgT (0, 0)) := (hgrow.block _ (row_lt hwn) (fun e => by have := (h.hr.lt _ e.symm).2; omega)).trans hwn
  have hne : ∀ (m : Nat) (y : Array Value) (T : TypeId), w.heap[m]? = some (Obj.cells y T (0, 0)) → T ≠ psgT → w1.heap[m]? = w.heap[m]? := fun m y T hm hT =>
    (hgrow.block m (by have := row_lt hm; have := hwa.size; omega) (fun e => by obtain ⟨c, hc⟩ := own_T h.hr e.symm; exact ne_T hm hc hT rfl)).trans (hwa.block m (row_lt hm))
  have hb1 : w1.heap[b]? = some (.cells #[row, .int .i64 size, .int .i64 (W : Nat)] buT (0, 0)) := (hne _ _ _ h.hb (by decide)).trans h.hb
  have hlen : (ss ++ [[]]).length = ss.length + 1 := by simp
  refine ⟨row_setN hb1 0 row', ?_, fun j hj => ?_, fun j hj => ?_, ?_, ?_, h.lo, ?_⟩
  · rw [hlen]
    have hl : (List.range (ss.length + 1)).map (fun j => Value.pointer (some ⟨if j = ss.length then w.heap.size else g j, 0, none⟩)) = ((List.range ss.length).map fun i => Value.pointer (some ⟨g i, 0, none⟩)) ++ [.pointer (some ⟨w.heap.size, 0, none⟩)] := by
      rw [List.range_succ, List.map_append]
      congr 1
      · apply List.map_congr_left
        intro j hj
        rw [if_neg (by have := List.mem_range.1 hj; omega)]
      · simp
    rw [hl]
    refine own_keepB hown (fun m em => Below.heap_setCell w1 ⟨b, 0, none⟩ row' m ?_)
    intro e2
    rw [e2] at em
    obtain ⟨c, hc⟩ := own_T hown em
    exact ne_T hb1 hc (by decide) rfl
  · rw [hlen] at hj
    by_cases e : j = ss.length
    · rw [if_pos e, if_pos e]
      exact (Below.heap_setCell w1 ⟨b, 0, none⟩ row' _ (by have := row_lt h.hb; show w.heap.size ≠ b; omega)).trans hnew
    · rw [if_neg e, if_neg e]
      have hj' : j < ss.length := by omega
      exact (Below.heap_setCell w1 ⟨b, 0, none⟩ row' _ (ne_T (h.hg j hj') h.hb (by decide))).trans ((hne _ _ _ (h.hg j hj') (by decide)).trans (h.hg j hj'))
  · rw [hlen] at hj
    by_cases e : j = ss.length
    · subst e
      rw [if_pos rfl, sgS_app, if_pos rfl]
      exact World.ownsRow_nil _ _ _ _
    · rw [if_neg e, sgS_app, if_neg e]
      have hj' : j < ss.length := by omega
      refine own_keepB (h.ho j hj') (fun m em => ?_)
      obtain ⟨c, hc⟩ := own_T (h.ho j hj') em
      exact (Below.heap_setCell w1 ⟨b, 0, none⟩ row' _ (ne_T hc h.hb (by decide))).trans (hne _ _ _ hc (by decide))
  · rw [hlen]
    intro j l hj hl e
    have hg : ∀ j, j < ss.length → g j < w.heap.size := fun j hj => row_lt (h.hg j hj)
    by_cases ej : j = ss.length <;> by_cases el : l = ss.length
    · rw [ej, el]
    · rw [if_pos ej, if_neg el] at e; have := hg l (by omega); omega
    · rw [if_neg ej, if_pos el] at e; have := hg j (by omega); omega
    · rw [if_neg ej, if_neg el] at e; exact h.gi j l (by omega) (by omega) e
  · rw [hlen]
    intro j l m hj hl
    by_cases ej : j = ss.length <;> by_cases el : l = ss.length
    · intro _ _; rw [ej, el]
    · rw [if_pos ej]; intro e; cases e
    · rw [if_pos el]; intro _ e; cases e
    · rw [if_neg ej, if_neg el]; exact h.vi j l m (by omega) (by omega)
  · rw [hlen]
    intro j hj
    by_cases e : j = ss.length
    · rw [if_pos e]; exact hBw
    · rw [if_neg e]; exact h.gl j (by omega)
theorem Bu.words {w : World} {base b size W : Nat} {ss : Segs} {row : Value} {g : Nat → Nat} {v : Nat → Value} (h : Bu w base b size W ss row g v) (W' : Nat) : Bu (w.setCell ⟨b, 2, none⟩ (.int .i64 (W' : Nat))) base b size W' ss row g v := by
  have hne : ∀ (m : Nat) (y : Array Value) (T : TypeId), w.heap[m]? = some (Obj.cells y T (0, 0)) → T ≠ buT → (w.setCell ⟨b, 2, none⟩ (.int .i64 (W' : Nat))).heap[m]? = w.heap[m]? := fun m y T hm hT => Below.heap_setCell w ⟨b, 2, none⟩ _ m (ne_T hm h.hb hT)
  exact ⟨row_setN h.hb 2 _, own_keepB h.hr (fun m e => by obtain ⟨c, hc⟩ := own_T h.hr e; exact hne _ _ _ hc (by decide)), fun i hi => (hne _ _ _ (h.hg i hi) (by decide)).trans (h.hg i hi), fun i hi => own_keepB (h.ho i hi) (fun m e => by obtain ⟨c, hc⟩ := own_T (h.ho i hi) e; exact hne _ _ _ hc (by decide)), h.gi, h.vi, h.lo, h.gl⟩
end Go.Proofs.YtbijfkpilncclaaGreat

namespace Go.Proofs.YtbijfkpilncclaaGreat
open Go.RowKit
abbrev wrT : TypeId := 137
abbrev stT : TypeId := 9
abbrev strS (s : List UInt8) : Value := .string ⟨s.toArray⟩
def Sb (w : World) (base b size : Nat) (ss : Segs) (bad : Bool) (P : Nat → Prop) : Prop :=
  ∃ v, w.heap[b]? = some (.cells #[v, .int .i64 size, .bool bad] wrT (0, 0)) ∧ w.ownsRow base stT 1 v ss.length (ss.map strS) ∧ base ≤ b ∧ P b ∧ ∀ k, v.ownBlock = some k → P k
theorem Sb.low {w w' : World} {base b size : Nat} {ss : Segs} {bad : Bool} {P : Nat → Prop} (h : Sb w base b size ss bad P) (hb : Below w.heap.size w w') : Sb w' base b size ss bad P := by
  obtain ⟨v, h1, h2, h3, h4⟩ := h
  exact ⟨v, (hb.block _ (row_lt h1)).trans h1, own_keepB h2 (fun k hk => hb.block k (h2.lt k hk).2), h3, h4⟩
theorem Sb.weak {w : World} {base b size : Nat} {ss : Segs} {bad : Bool} {P Q : Nat → Prop} (h : Sb w base b size ss bad P) (hQ : ∀ k, P k → Q k) : Sb w base b size ss bad Q := by
  obtain ⟨v, h1, h2, h3, h4, h5⟩ := h
  exact ⟨v, h1, h2, h3, hQ _ h4, fun k hk => hQ _ (h5 k hk)⟩
theorem Sb.tight {w : World} {base b size : Nat} {ss : Segs} {bad : Bool} {P : Nat → Prop} (h : Sb w base b size ss bad P) : Sb w base b size ss bad (fun k => P k ∧ base ≤ k ∧ k < w.heap.size) := by
  obtain ⟨v, h1, h2, h3, h4, h5⟩ := h
  exact ⟨v, h1, h2, h3, ⟨h4, h3, row_lt h1⟩, fun k hk => ⟨h5 k hk, h2.lt k hk⟩⟩
theorem Sb.base {w : World} {base b size : Nat} {ss : Segs} {bad : Bool} {P : Nat → Prop} (h : Sb w base b size ss bad P) : base ≤ b ∧ b < w.heap.size := by
  obtain ⟨v, h1, h2, h3, h4, h5⟩ := h
  exact ⟨h3, row_lt h1⟩
theorem KP.drew {P : Nat → Prop} {w w' : World} (h : KP P w w') : KP P w w'.drew := ⟨h.os, h.tape, h.output, h.size, h.block⟩
theorem Sb.drew {w : World} {base b size : Nat} {ss : Segs} {bad : Bool} {P : Nat → Prop} (h : Sb w base b size ss bad P) : Sb w.drew base b size ss bad P := h.low (Below.refl _ _).drew
theorem sg_eq {ss : Segs} {i : Nat} (hi : i < ss.length) : sgS ss i = ss[i] := by unfold sgS; rw [List.getElem?_eq_getElem hi]; rfl
theorem Sb.open_ {w : World} {base b size : Nat} {ss : Segs} {bad : Bool} {P : Nat → Prop} (h : Sb w base b size ss bad P) (h1 : 1 ≤ ss.length) : ∃ r cap, w.heap[b]? = some (.cells #[.slice (some ⟨r, 0, none⟩) ss.length cap, .int .i64 size, .bool bad] wrT (0, 0)) ∧ (P r ∧ r < w.heap.size ∧ r ≠ b) ∧
    (∀ i, i < ss.length → w.cell? ⟨r, i, none⟩ = some (strS (sgS ss i)) ∧ w.frozen? ⟨r, i, none⟩ = false) ∧
    ∀ i s, i < ss.length → Sb (w.setCell ⟨r, i, none⟩ (strS s)) base b size (ss.set i s) bad P := by
  obtain ⟨v, hb, ho, hl, hP, hv⟩ := h
  obtain ⟨r, cap, cur, rfl, e2, e3, e4, e5, e6, e7⟩ := own_cases ho h1
  have hne : r ≠ b := ne_T e3 hb (by decide)
  refine ⟨r, cap, hb, ⟨hv r rfl, row_lt e3, hne⟩, fun i hi => ⟨?_, row_free e3 i⟩, fun i s hi => ?_⟩
  · have := ho.cells (g := r) rfl i (strS (sgS ss i)) (by rw [List.getElem?_map, List.getElem?_eq_getElem hi, sg_eq hi]; rfl)
    rwa [add_zero0] at this
  · refine ⟨_, (Below.heap_setCell w ⟨r, i, none⟩ _ b (fun e => hne e.symm)).trans hb, ?_, hl, hP, hv⟩
    have := ho.stored (g := r) (cap := cap) i (strS s)
    rw [List.length_set, List.map_set]
    exact this.1
theorem Sb.bad_ {w : World} {base b size : Nat} {ss : Segs} {bad : Bool} {P : Nat → Prop} (h : Sb w base b size ss bad P) : Sb (w.setCell ⟨b, 2, none⟩ (.bool true)) base b size ss true P := by
  obtain ⟨v, hb, ho, hl, hP, hv⟩ := h
  refine ⟨v, row_setN hb 2 _, own_keepB ho (fun k hk => Below.heap_setCell w ⟨b, 2, none⟩ _ k ?_), hl, hP, hv⟩
  obtain ⟨c, hc⟩ := own_T ho hk
  exact ne_T hc hb (by decide)
end Go.Proofs.YtbijfkpilncclaaGreat

namespace Go.Proofs.YtbijfkpilncclaaGreat
open Go.RowKit

set_option maxHeartbeats 1000000 in
theorem put_any (l : List UInt8) (at_ size n : Int) (w : World) (hl : l.length = 8) (h0 : 0 ≤ at_) (h1 : 0 ≤ size) (h2 : at_ + size ≤ 8) (hn0 : 0 ≤ n) (hn1 : n < 18446744073709551616) :
    Calls Tryz.prog 118 #[.agg (wd l), .int .i64 at_, .int .i64 size, .int .u64 n] w fun e w' => e = .returned (.agg (wd (putL l at_.toNat (leB n size.toNat)))) ∧ Below w.heap.size w w' := by
  obtain ⟨a, rfl⟩ := Int.eq_ofNat_of_zero_le h0
  obtain ⟨z, rfl⟩ := Int.eq_ofNat_of_zero_le h1
  have HL := Lib.hid hl
  clear hl
  go_enter Tryz.func118, Tryz.ntmps118
  go_wp2
  go_loopw [3, 9] (fun m i wr => ∃ k : Nat, k ≤ z ∧ i = .int .i64 ((a : Int) + k) ∧ m = .int .u64 (shr8 n k) ∧ Hid (wr.heap[w.heap.size]? = some (.cells (wd (putL l a (leB n k))) 91 (0, 0))) ∧ Hid (wr.heap[w.heap.size + 1]? = some (.cells #[.int .u8 0, .int .u8 0, .int .u8 0, .int .u8 0, .int .u8 0, .int .u8 0, .int .u8 0, .int .u8 0] 91 (0, 0))) ∧ Hid (Below w.heap.size w wr)) (fun _ i _ => (a + z - intOf i).toNat)
  case atStart =>
    refine ⟨0, by omega, by simp, rfl, ?_, ?_, ?_⟩
    · rw [leB, putL_nil]; exact heap_alloc2_old w _ _
    · exact heap_alloc2_new w _ _
    · exact ((Below.refl _ _).alloc (Nat.le_refl _) _).alloc (by simp) _
  case round =>
    obtain ⟨k, hk, rfl, rfl, HW, HZ, HB⟩ := hrel
    have hbd := shr8_bd n k hn0 hn1
    obtain ⟨hb0, hb1⟩ := hbd
    by_cases hlt : k < z
    · have hcell := wd_cell_row HW.out (a + k) (by rw [putL_length _ _ _ (by rw [leB_length, HL.out]; omega), HL.out]; omega)
      have hfr := frozen_row HW.out (a + k)
      go_wp2
      go_roundw
      case rel =>
        exact ⟨k + 1, by omega, by go_num, rfl, put_step l a n k (by rw [HL.out]; omega) HW.out, heap_set_far _ (by omega) HZ.out, HB.out.setCell (Nat.le_refl _) _⟩
      case measure => simp [intOf]; omega
    · obtain rfl : k = z := by omega
      have hpl : (putL l a (leB n k)).length = 8 := by rw [putL_length _ _ _ (by rw [leB_length, HL.out]; omega), HL.out]
      have HP := Lib.hid hpl
      clear hpl
      go_wp2_with (first | (refine wpList_load_wd rfl 91 (.tmp 4) rfl w.heap.size rfl 91 _ _ HW.out Tryz.underlying91 rfl (by rw [HP.out]; exact size46) ?_) | (refine wpList_store_wd rfl 91 (.tmp 8) (.tmp 24) rfl (w.heap.size + 1) _ rfl rfl 91 _ HZ.out (by rw [HP.out]; exact size46) (by rw [HP.out]; rfl) ?_; intro w5 hg5 hb5))
      refine bodyPost_ret (v := .agg (wd (putL l a (leB n k)))) ?_ rfl ⟨by simp, HB.out.grown hb5.out (by have := HB.out.size; omega) (fun k e => by cases e; simp)⟩
      exact results_cell_row rfl _ _ (w.heap.size + 1) 91 _ (0, 0) _ rfl hg5.out Tryz.underlying91 rfl (by rw [wd_size, HP.out]; exact size46)

end Go.Proofs.YtbijfkpilncclaaGreat

namespace Go.Proofs.YtbijfkpilncclaaGreat
open Go.RowKit

set_option maxHeartbeats 400000 in
theorem text_any (l : List UInt8) (w : World) (hl : l.length = 8) :
    Calls Tryz.prog 81 #[.agg (wd l)] w fun e w' => e = .returned (.string ⟨l.toArray⟩) ∧ Below w.heap.size w w' := by
  have hrow := heap_alloc_new w (.cells (wd l) 91)
  have hcv : (convert 36 9 (.slice (some ⟨w.heap.size, 0, none⟩) 8 8)).run Tryz.prog (w.alloc (.cells (wd l) 91)) = .ok (.string ⟨l.toArray⟩) (w.alloc (.cells (wd l) 91)) := by
    exact convert_wd _ _ _ _ _ _ 8 l hl Tryz.underlying36 Tryz.underlying5 Tryz.underlying9 hrow (by rw [List.take_of_length_le (by simp [wd, Lib.byteCells_length, hl])]; simp [wd])
  have HL := Lib.hid hl
  clear hl hrow
  go_enter Tryz.func81, Tryz.ntmps81
  go_wp2
  go_ret
  exact ⟨rfl, (Below.refl _ _).alloc (Nat.le_refl _) _⟩
theorem text_lit (b0 b1 b2 b3 b4 b5 b6 b7 : UInt8) (w : World) :
    Calls Tryz.prog 81 #[.agg #[.int .u8 b0.toNat, .int .u8 b1.toNat, .int .u8 b2.toNat, .int .u8 b3.toNat, .int .u8 b4.toNat, .int .u8 b5.toNat, .int .u8 b6.toNat, .int .u8 b7.toNat]] w fun e w' =>
      e = .returned (.string ⟨#[b0, b1, b2, b3, b4, b5, b6, b7]⟩) ∧ Below w.heap.size w w' := text_any [b0, b1, b2, b3, b4, b5, b6, b7] w rfl
end Go.Proofs.YtbijfkpilncclaaGreat

namespace Go.Proofs.YtbijfkpilncclaaGreat
open Go.RowKit
def zeros8 : List UInt8 := [0, 0, 0, 0, 0, 0, 0, 0]
theorem put_zero (n : Int) (w : World) (hn0 : 0 ≤ n) (hn1 : n < 18446744073709551616) :
    Calls Tryz.prog 118 #[.agg #[.int .u8 0, .int .u8 0, .int .u8 0, .int .u8 0, .int .u8 0, .int .u8 0, .int .u8 0, .int .u8 0], .int .i64 0, .int .i64 8, .int .u64 n] w fun e w' => e = .returned (.agg (wd (leB n 8))) ∧ Below w.heap.size w w' := by
  have hput : putL zeros8 (0 : Int).toNat (leB n (8 : Int).toNat) = leB n 8 := by
    show putL zeros8 0 (leB n 8) = leB n 8
    rw [putL, leB_length, zeros8]; simp
  have h := put_any zeros8 0 8 n w rfl (by decide) (by decide) (by decide) hn0 hn1
  rw [hput] at h
  exact h
set_option maxHeartbeats 1000000 in
theorem wordOf_any (n : Int) (w : World) (hn0 : 0 ≤ n) (hn1 : n < 18446744073709551616) :
    Calls Tryz.prog 83 #[.int .u64 n] w fun e w' => e = .returned (.agg (wd (leB n 8))) ∧ Below w.heap.size w w' := by
  have HL : Hid ((leB n 8).length = 8) := Lib.hid (leB_length n 8)
  go_enter Tryz.func83, Tryz.ntmps83
  go_wp2_with fail
  refine (put_zero n _ hn0 hn1).mono ?_
  rintro e w1 ⟨rfl, hb1⟩
  have hA : Hid (w1.heap[w.heap.size]? = some (.cells #[.int .u8 0, .int .u8 0, .int .u8 0, .int .u8 0, .int .u8 0, .int .u8 0, .int .u8 0, .int .u8 0] 91 (0, 0))) :=
    (hb1.block w.heap.size (by simp; omega)).trans (heap_alloc2_old w _ _)
  have hB : Hid (Below w.heap.size w w1) := ((Below.refl _ w).alloc (Nat.le_refl _) _ |>.alloc (by simp) _).trans (hb1.mono (by simp; omega))
  clear hb1
  go_wp2_with (refine wpList_store_wd rfl 91 (.tmp 2) (.tmp 6) rfl w.heap.size (leB n 8) rfl rfl 91 _ hA.out (by rw [HL.out]; exact size46) (by rw [HL.out]; rfl) ?_; intro w5 hg5 hb5)
  refine bodyPost_ret (v := .agg (wd (leB n 8))) ?_ rfl ⟨rfl, hB.out.grown hb5.out (by have := hB.out.size; omega) (fun k e => by cases e; simp)⟩
  exact results_cell_row rfl _ _ w.heap.size 91 _ (0, 0) _ rfl hg5.out Tryz.underlying91 rfl (by rw [wd_size, HL.out]; exact size46)
end Go.Proofs.YtbijfkpilncclaaGreat
