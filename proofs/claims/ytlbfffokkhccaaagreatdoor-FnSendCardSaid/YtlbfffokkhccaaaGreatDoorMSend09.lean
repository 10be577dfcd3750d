/- Texts of the proof of the law FnSend, side by side: part 9. -/
import Derived.Deep.MidRow
import Derived.Lib.AppendZerosOnto
import Derived.Deep.DeepMust
import Derived.Outline
import Derived.Test.YtlbfffokkhccaaaGreatDoorMSend08
set_option maxHeartbeats 8000000
set_option maxRecDepth 100000
namespace Go.Proofs.YtlbfffokkhccaaaGreatDoor
open Go.RowKit
abbrev buT : TypeId := 55
abbrev sgT : TypeId := 116
abbrev psgT : TypeId := 113
abbrev wdT : TypeId := 87
structure KP (P : Nat → Prop) (w w' : World) : Prop where
 os : w'.os = w.os
 tape : w'.tape = w.tape
 output : w'.output = w.output
 size : w.heap.size ≤ w'.heap.size
 block : ∀ k, k < w.heap.size → ¬ P k → w'.heap[k]? = w.heap[k]?
theorem KP.refl (P : Nat → Prop) (w : World) : KP P w w := ⟨rfl, rfl, rfl, Nat.le_refl _, fun _ _ _ => rfl⟩
theorem KP.trans {P Q : Nat → Prop} {a b c : World} (h : KP P a b) (g : KP Q b c) (hQ : ∀ k, k < a.heap.size → Q k → P k) : KP P a c :=
 ⟨g.os.trans h.os, g.tape.trans h.tape, g.output.trans h.output, Nat.le_trans h.size g.size, fun k hk hn => (g.block k (Nat.lt_of_lt_of_le hk h.size) (fun q => hn (hQ k hk q))).trans (h.block k hk hn)⟩
theorem KP.of_below {P : Nat → Prop} {w w' : World} (h : Below w.heap.size w w') : KP P w w' := ⟨h.os, h.tape, h.output, h.size, fun k hk _ => h.block k hk⟩
theorem KP.below {P : Nat → Prop} {B : Nat} {w w' : World} (h : KP P w w') (hB : B ≤ w.heap.size) (hP : ∀ k, P k → B ≤ k) : Below B w w' :=
 ⟨h.os, h.tape, h.output, h.size, fun k hk => h.block k (Nat.lt_of_lt_of_le hk hB) (fun p => by have := hP k p; omega)⟩
theorem KP.set {P : Nat → Prop} {b : Nat} (hb : P b) (w : World) (i : Nat) (u : Value) : KP P w (w.setCell ⟨b, i, none⟩ u) :=
 ⟨rfl, rfl, rfl, by simp [World.setCell], fun k _ hk => Below.heap_setCell w ⟨b, i, none⟩ u k (fun e => hk (by rw [e]; exact hb))⟩
theorem drop_len (P D : List Value) (n k : Nat) (h : P.length = n) : (P ++ D).drop (n + k) = D.drop k := by
 subst h
 rw [← List.drop_drop, List.drop_left' rfl]
theorem list_sets (L : List Value) (o : Nat) (v : Value) (r : List Value) (h : o < L.length) : (L.set o v).take (o + 1) ++ r ++ (L.set o v).drop (o + 1 + r.length) = L.take o ++ (v :: r) ++ L.drop (o + (v :: r).length) := by
 obtain ⟨A, x, D, rfl, hA⟩ : ∃ A x D, L = A ++ x :: D ∧ A.length = o := ⟨L.take o, L[o], L.drop (o + 1), by rw [List.getElem_cons_drop, List.take_append_drop], by simp; omega⟩
 subst hA
 have e1 : (A ++ x :: D).set A.length v = (A ++ [v]) ++ D := by simp [List.set_append]
 have e2 : A ++ x :: D = (A ++ [x]) ++ D := by simp
 have e3 : ((A ++ [x]) ++ D).take A.length = A := by rw [← e2]; exact List.take_left' rfl
 rw [e1, List.take_left' (by simp), drop_len (A ++ [v]) D (A.length + 1) r.length (by simp), e2, e3,
  show A.length + (v :: r).length = (A.length + 1) + r.length by simp; omega, drop_len (A ++ [x]) D (A.length + 1) r.length (by simp)]
 simp
theorem setCells_row : ∀ (vs : List Value) (g o : Nat) (w : World) (cur : Array Value) (T : TypeId), w.heap[g]? = some (.cells cur T (0, 0)) → o + vs.length ≤ cur.size →
 (w.setCells g o vs).heap[g]? = some (.cells (cur.toList.take o ++ vs ++ cur.toList.drop (o + vs.length)).toArray T (0, 0))
 | [], g, o, w, cur, T, h, _ => by
   rw [World.setCells, h]
   simp
 | v :: r, g, o, w, cur, T, h, hl => by
   rw [World.setCells]
   have h1 := row_setN h o v
   have h2 := setCells_row r g (o + 1) _ _ T h1 (by simp at hl ⊢; omega)
   rw [h2]
   congr 3
   rw [Array.toList_setIfInBounds]
   exact list_sets _ _ _ _ (by simp at hl ⊢; omega)
theorem setCells_other : ∀ (vs : List Value) (g o : Nat) (w : World) (k : Nat), k ≠ g → (w.setCells g o vs).heap[k]? = w.heap[k]?
 | [], _, _, _, _, _ => rfl
 | v :: r, g, o, w, k, h => by rw [World.setCells, setCells_other r g (o + 1) _ k h, Below.heap_setCell w ⟨g, o, none⟩ v k h]
theorem setCells_size : ∀ (vs : List Value) (g o : Nat) (w : World), (w.setCells g o vs).heap.size = w.heap.size
 | [], _, _, _ => rfl
 | v :: r, g, o, w => by rw [World.setCells, setCells_size r g (o + 1)]; simp [World.setCell]
theorem setCells_os : ∀ (vs : List Value) (g o : Nat) (w : World), (w.setCells g o vs).os = w.os ∧ (w.setCells g o vs).tape = w.tape ∧ (w.setCells g o vs).output = w.output
 | [], _, _, _ => ⟨rfl, rfl, rfl⟩
 | v :: r, g, o, w => by rw [World.setCells]; exact setCells_os r g (o + 1) _
theorem KP.sets {P : Nat → Prop} {b : Nat} (hb : P b) (w : World) (i : Nat) (vs : List Value) : KP P w (w.setCells b i vs) :=
 ⟨(setCells_os vs b i w).1, (setCells_os vs b i w).2.1, (setCells_os vs b i w).2.2, Nat.le_of_eq (setCells_size vs b i w).symm, fun k _ hk => setCells_other vs b i w k (fun e => hk (by rw [e]; exact hb))⟩
structure Bu (w : World) (base b size W : Nat) (ss : Segs) (row : Value) (g : Nat → Nat) (v : Nat → Value) : Prop where
 hb : w.heap[b]? = some (.cells #[row, .int .i64 size, .int .i64 (W : Nat)] buT (0, 0))
 hr : w.ownsRow base psgT 1 row ss.length ((List.range ss.length).map fun i => Value.pointer (some ⟨g i, 0, none⟩))
 hg : ∀ i, i < ss.length → w.heap[g i]? = some (.cells #[v i] sgT (0, 0))
 ho : ∀ i, i < ss.length → w.ownsRow base wdT 8 (v i) (wn (sgS ss i)) (Lib.byteCells (sgS ss i))
 gi : ∀ i j, i < ss.length → j < ss.length → g i = g j → i = j
 vi : ∀ i j k, i < ss.length → j < ss.length → (v i).ownBlock = some k → (v j).ownBlock = some k → i = j
 lo : base ≤ b
 gl : ∀ i, i < ss.length → base ≤ g i
def Bk (b : Nat) (row : Value) (g : Nat → Nat) (v : Nat → Value) (n k : Nat) : Prop := k = b ∨ row.ownBlock = some k ∨ ∃ i, i < n ∧ (k = g i ∨ (v i).ownBlock = some k)
def Bun (w : World) (base b size : Nat) (ss : Segs) (P : Nat → Prop) : Prop := ∃ row g v, Bu w base b size (totS ss) ss row g v ∧ ∀ k, Bk b row g v ss.length k → P k
theorem own_keepB {w w' : World} {B T sz n : Nat} {v : Value} {xs : List Value} (h : w.ownsRow B T sz v n xs) (hb : ∀ k, v.ownBlock = some k → w'.heap[k]? = w.heap[k]?) : w'.ownsRow B T sz v n xs := by
 refine ⟨h.1, ?_⟩
 rcases h.2 with hv | ⟨g, cap, cur, rfl, h1, h2, h3⟩
 · exact .inl hv
 · exact .inr ⟨g, cap, cur, rfl, h1, (hb g rfl).trans h2, h3⟩
theorem Bu.keep {w w' : World} {base b size W : Nat} {ss : Segs} {row : Value} {g : Nat → Nat} {v : Nat → Value} (h : Bu w base b size W ss row g v) (hk : ∀ k, Bk b row g v ss.length k → w'.heap[k]? = w.heap[k]?) : Bu w' base b size W ss row g v :=
 ⟨(hk b (.inl rfl)).trans h.hb, own_keepB h.hr (fun k e => hk k (.inr (.inl e))), fun i hi => (hk _ (.inr (.inr ⟨i, hi, .inl rfl⟩))).trans (h.hg i hi), fun i hi => own_keepB (h.ho i hi) (fun k e => hk k (.inr (.inr ⟨i, hi, .inr e⟩))), h.gi, h.vi, h.lo, h.gl⟩
theorem Bu.lt {w : World} {base b size W : Nat} {ss : Segs} {row : Value} {g : Nat → Nat} {v : Nat → Value} (h : Bu w base b size W ss row g v) : ∀ k, Bk b row g v ss.length k → base ≤ k ∧ k < w.heap.size := by
 rintro k (rfl | e | ⟨i, hi, rfl | e⟩)
 · exact ⟨h.lo, row_lt h.hb⟩
 · exact h.hr.lt k e
 · exact ⟨h.gl i hi, row_lt (h.hg i hi)⟩
 · exact (h.ho i hi).lt k e
theorem Bun.low {w w' : World} {base b size : Nat} {ss : Segs} {P : Nat → Prop} (h : Bun w base b size ss P) (hb : Below w.heap.size w w') : Bun w' base b size ss P := by
 obtain ⟨row, g, v, hB, hP⟩ := h
 exact ⟨row, g, v, hB.keep (fun k hk => hb.block k (hB.lt k hk).2), hP⟩
theorem Bun.weak {w : World} {base b size : Nat} {ss : Segs} {P Q : Nat → Prop} (h : Bun w base b size ss P) (hQ : ∀ k, P k → Q k) : Bun w base b size ss Q := by
 obtain ⟨row, g, v, hB, hP⟩ := h
 exact ⟨row, g, v, hB, fun k hk => hQ k (hP k hk)⟩
theorem Bun.tight {w : World} {base b size : Nat} {ss : Segs} {P : Nat → Prop} (h : Bun w base b size ss P) : Bun w base b size ss (fun k => P k ∧ base ≤ k ∧ k < w.heap.size) := by
 obtain ⟨row, g, v, hB, hP⟩ := h
 exact ⟨row, g, v, hB, fun k hk => ⟨hP k hk, hB.lt k hk⟩⟩
theorem own_cases {w : World} {B T sz n : Nat} {v : Value} {xs : List Value} (h : w.ownsRow B T sz v n xs) (hn : 0 < n) : ∃ g cap cur, v = .slice (some ⟨g, 0, none⟩) n cap ∧ B ≤ g ∧ w.heap[g]? = some (.cells cur T (0, 0)) ∧ n ≤ cap ∧ cap ≤ maxLen ∧ cur.size = cap * sz ∧ cur.toList.take (n * sz) = xs := by
 rcases h.2 with ⟨_, h0⟩ | ⟨g, cap, cur, h1, h2⟩
 · omega
 · exact ⟨g, cap, cur, h1, h2⟩
theorem Bu.row {w : World} {base b size W : Nat} {ss : Segs} {row : Value} {g : Nat → Nat} {v : Nat → Value} (h : Bu w base b size W ss row g v) {i : Nat} (hi : i < ss.length) :
 ∃ r cap, row = .slice (some ⟨r, 0, none⟩) ss.length cap ∧ ∀ j, j < ss.length → w.cell? ⟨r, j, none⟩ = some (.pointer (some ⟨g j, 0, none⟩)) := by
 obtain ⟨r, cap, cur, h1, h2, h3, h4, h5, h6, h7⟩ := own_cases h.hr (by omega)
 refine ⟨r, cap, h1, fun j hj => ?_⟩
 have := h.hr.cells (g := r) (by rw [h1]; rfl) j (.pointer (some ⟨g j, 0, none⟩)) (by simp [hj])
 rwa [add_zero0] at this
theorem Bu.seg {w : World} {base b size W : Nat} {ss : Segs} {row : Value} {g : Nat → Nat} {v : Nat → Value} (h : Bu w base b size W ss row g v) {i : Nat} (hi : i < ss.length) : ∃ A cap, v i = .slice A (wn (sgS ss i)) cap ∧ w.cell? ⟨g i, 0, none⟩ = some (v i) ∧ w.frozen? ⟨g i, 0, none⟩ = false := by
 have hc : w.cell? ⟨g i, 0, none⟩ = some (v i) := by rw [cell_of_row _ _ _ _ _ _ (h.hg i hi)]; rfl
 rcases (h.ho i hi).2 with ⟨h1, h2⟩ | ⟨x, cap, cur, h1, _⟩
 · exact ⟨none, 0, by rw [h1, h2], hc, row_free (h.hg i hi) 0⟩
 · exact ⟨_, cap, h1, hc, row_free (h.hg i hi) 0⟩
theorem cells3 {w : World} {g : Nat} {v0 v1 v2 : Value} {T : TypeId} (h : w.heap[g]? = some (.cells #[v0, v1, v2] T (0, 0))) : w.cell? ⟨g, 0, none⟩ = some v0 ∧ w.cell? ⟨g, 1, none⟩ = some v1 ∧ w.cell? ⟨g, 2, none⟩ = some v2 := by
 refine ⟨?_, ?_, ?_⟩ <;> (rw [cell_of_row _ _ _ _ _ _ h]; rfl)
theorem byteCells_len (l : List UInt8) : (Lib.byteCells l).length = l.length := by simp [Lib.byteCells]
theorem byteCells_app (a b : List UInt8) : Lib.byteCells (a ++ b) = Lib.byteCells a ++ Lib.byteCells b := by simp [Lib.byteCells]
theorem byteCells_spl (s t : List UInt8) (p : Nat) : Lib.byteCells (spl s p t) = (Lib.byteCells s).take p ++ Lib.byteCells t ++ (Lib.byteCells s).drop (p + (Lib.byteCells t).length) := by
 unfold spl
 rw [byteCells_app, byteCells_app, byteCells_len]
 simp [Lib.byteCells, List.map_take, List.map_drop]
theorem take_spl {L xs vs : List Value} {n o : Nat} (h : L.take n = xs) (hl : xs.length = n) (ho : o + vs.length ≤ n) :
 (L.take o ++ vs ++ L.drop (o + vs.length)).take n = xs.take o ++ vs ++ xs.drop (o + vs.length) := by
 obtain ⟨r, rfl⟩ : ∃ r, L = xs ++ r := ⟨L.drop n, by rw [← h, List.take_append_drop]⟩
 have e1 : (xs ++ r).take o = xs.take o := List.take_append_of_le_length (by omega)
 have e2 : (xs ++ r).drop (o + vs.length) = xs.drop (o + vs.length) ++ r := List.drop_append_of_le_length (by omega)
 rw [e1, e2, ← List.append_assoc]
 exact List.take_left' (by simp; omega)
theorem own_T {w : World} {B T sz n k : Nat} {v : Value} {xs : List Value} (h : w.ownsRow B T sz v n xs) (e : v.ownBlock = some k) : ∃ cur, w.heap[k]? = some (.cells cur T (0, 0)) := by
 rcases h.2 with ⟨rfl, _⟩ | ⟨g, cap, cur, rfl, h1, h2, h3⟩
 · cases e
 · injection e with e
   subst e
   exact ⟨cur, h2⟩
theorem ne_T {w : World} {a b : Nat} {x y : Array Value} {T U : TypeId} (ha : w.heap[a]? = some (.cells x T (0, 0))) (hb : w.heap[b]? = some (.cells y U (0, 0))) (hT : T ≠ U) : a ≠ b := by
 rintro rfl
 rw [ha] at hb
 injection hb with hb
 injection hb with _ h2
 exact hT h2
theorem Bu.putAt {w : World} {base b size W : Nat} {ss : Segs} {row : Value} {g : Nat → Nat} {v : Nat → Value} (h : Bu w base b size W ss row g v) {i : Nat} (hi : i < ss.length) {o : Nat} {t : List UInt8} (ha : o + t.length ≤ (sgS ss i).length) (x n cap : Nat) (hv : v i = .slice (some ⟨x, 0, none⟩) n cap) :
 Bu (w.setCells x o (Lib.byteCells t)) base b size W (ss.set i (spl (sgS ss i) o t)) row g v := by
 obtain ⟨cur, hx⟩ := own_T (h.ho i hi) (k := x) (by rw [hv]; rfl)
 have hne : ∀ (k : Nat) (y : Array Value) (T : TypeId), w.heap[k]? = some (Obj.cells y T (0, 0)) → T ≠ wdT → (w.setCells x o (Lib.byteCells t)).heap[k]? = w.heap[k]? := fun k y T hk hT => setCells_other _ _ _ _ _ (ne_T hk hx hT)
 have hlen : (ss.set i (spl (sgS ss i) o t)).length = ss.length := by simp
 have hal := spl_alen (t := t) hi ha
 refine ⟨?_, ?_, fun j hj => ?_, fun j hj => ?_, by rw [hlen]; exact h.gi, by rw [hlen]; exact h.vi, h.lo, by rw [hlen]; exact h.gl⟩
 · exact (hne _ _ _ h.hb (by decide)).trans h.hb
 · rw [hlen]
   exact own_keepB h.hr (fun k e => by obtain ⟨c, hc⟩ := own_T h.hr e; exact hne _ _ _ hc (by decide))
 · rw [hlen] at hj
   exact (hne _ _ _ (h.hg j hj) (by decide)).trans (h.hg j hj)
 · rw [hlen] at hj
   have hw : wn (sgS (ss.set i (spl (sgS ss i) o t)) j) = wn (sgS ss j) := by unfold wn; rw [← hal.2 j]
   rw [hw]
   by_cases e : j = i
   · subst e
     have h1 := h.ho j hj
     have hsg : sgS (ss.set j (spl (sgS ss j) o t)) j = spl (sgS ss j) o t := by rw [sgS_set hi, if_pos rfl]
     rw [hsg, byteCells_spl]
     have hl8 : (Lib.byteCells (sgS ss j)).length = wn (sgS ss j) * 8 := h1.1
     rw [byteCells_len] at hl8
     refine ⟨?_, ?_⟩
     · rw [← byteCells_spl, byteCells_len, spl_length ha]; exact hl8
     · rcases h1.2 with ⟨h2, _⟩ | ⟨y, cp, cu, h2, h3, h4, h5, h6, h7, h8⟩
       · rw [hv] at h2; cases h2
       · obtain rfl : x = y := by rw [hv] at h2; injection h2 with h2; injection h2 with h2; injection h2
         have hcs : o + (Lib.byteCells t).length ≤ cu.size := by
          rw [byteCells_len]
          have : (cu.toList.take (wn (sgS ss j) * 8)).length = wn (sgS ss j) * 8 := by rw [h8, byteCells_len]; exact hl8
          rw [List.length_take] at this
          simp at this
          omega
         refine .inr ⟨x, cp, _, h2, h3, setCells_row _ x o w cu wdT h4 hcs, h5, h6, ?_, ?_⟩
         · simp only [List.size_toArray, List.length_append, List.length_take, List.length_drop, Array.length_toList]
           omega
         · exact take_spl h8 (by rw [byteCells_len]; exact hl8) (by rw [byteCells_len]; omega)
   · have hsg : sgS (ss.set i (spl (sgS ss i) o t)) j = sgS ss j := by rw [sgS_set hi, if_neg e]
     rw [hsg]
     exact own_keepB (h.ho j hj) (fun k ek => setCells_other _ _ _ _ _ (fun e2 => e (h.vi j i k hj hi ek (by rw [hv, e2]; rfl))))
theorem Bu.put {w : World} {base b size W : Nat} {ss : Segs} {row : Value} {g : Nat → Nat} {v : Nat → Value} (h : Bu w base b size W ss row g v) {i : Nat} (hi : i < ss.length) {a : Nat} {t : List UInt8} (ha : 8 * a + t.length ≤ (sgS ss i).length) (x n cap : Nat) (hv : v i = .slice (some ⟨x, 0, none⟩) n cap) :
 Bu (w.setCells x (8 * a) (Lib.byteCells t)) base b size W (putS ss i a t) row g v := h.putAt hi ha x n cap hv
theorem Bu.grow {w w1 : World} {base b size W : Nat} {ss : Segs} {row : Value} {g : Nat → Nat} {v : Nat → Value} (h : Bu w base b size W ss row g v) (hBw : base ≤ w.heap.size) {i k : Nat} (hi : i < ss.length) (hw8 : WdS ss) (v' : Value)
 (hown : w1.ownsRow base wdT 8 v' (wn (sgS ss i) + k) (Lib.byteCells (sgS ss i) ++ List.replicate (8 * k) (.int .u8 0))) (hgrow : w.grownBy w1 (v i).ownBlock) (hat : v'.ownBlock = (v i).ownBlock ∨ v'.ownBlock = some w.heap.size) :
 Bu (w1.setCell ⟨g i, 0, none⟩ v') base b size W (growB ss i k) row g (fun j => if j = i then v' else v j) := by
 have hlen := growB_length ss i k
 have hgi : w1.heap[g i]? = some (.cells #[v i] sgT (0, 0)) := (hgrow.block _ (row_lt (h.hg i hi)) (fun e => by
  obtain ⟨c, hc⟩ := own_T (h.ho i hi) e.symm
  exact ne_T (h.hg i hi) hc (by decide) rfl)).trans (h.hg i hi)
 have hne : ∀ (m : Nat) (y : Array Value) (T : TypeId), w.heap[m]? = some (Obj.cells y T (0, 0)) → some m ≠ (v i).ownBlock → m ≠ g i → (w1.setCell ⟨g i, 0, none⟩ v').heap[m]? = w.heap[m]? := fun m y T hm h1 h2 =>
  (Below.heap_setCell w1 ⟨g i, 0, none⟩ v' m h2).trans (hgrow.block m (row_lt hm) h1)
 have hvT : ∀ (m : Nat) (y : Array Value) (T : TypeId), w.heap[m]? = some (Obj.cells y T (0, 0)) → T ≠ wdT → some m ≠ (v i).ownBlock := fun m y T hm hT e => by
  obtain ⟨c, hc⟩ := own_T (h.ho i hi) e.symm
  exact ne_T hm hc hT rfl
 have hbl : ∀ m, Bk b row g v ss.length m → base ≤ m := by
  rintro m (rfl | e | ⟨j, hj, rfl | e⟩)
  · exact h.lo
  · exact (h.hr.lt m e).1
  · exact h.gl j hj
  · exact ((h.ho j hj).lt m e).1
 refine ⟨?_, ?_, fun j hj => ?_, fun j hj => ?_, by rw [hlen]; exact h.gi, ?_, h.lo, by rw [hlen]; exact h.gl⟩
 · exact (hne _ _ _ h.hb (hvT _ _ _ h.hb (by decide)) (ne_T h.hb (h.hg i hi) (by decide))).trans h.hb
 · rw [hlen]
   exact own_keepB h.hr (fun m e => by obtain ⟨c, hc⟩ := own_T h.hr e; exact hne _ _ _ hc (hvT _ _ _ hc (by decide)) (ne_T hc (h.hg i hi) (by decide)))
 · rw [hlen] at hj
   by_cases e : j = i
   · subst e
     rw [if_pos rfl]
     exact row_setN hgi 0 v'
   · rw [if_neg e]
     exact (hne _ _ _ (h.hg j hj) (hvT _ _ _ (h.hg j hj) (by decide)) (fun x => e (h.gi j i hj hi x))).trans (h.hg j hj)
 · rw [hlen] at hj
   by_cases e : j = i
   · subst e
     rw [if_pos rfl, wn_grow hi, sgS_grow hi, if_pos rfl, byteCells_app]
     have hz : Lib.byteCells (zer k) = List.replicate (8 * k) (.int .u8 0) := by simp [Lib.byteCells, zer]
     rw [hz]
     refine own_keepB hown (fun m em => Below.heap_setCell w1 ⟨g j, 0, none⟩ v' m ?_)
     intro e2
     rw [e2] at em
     obtain ⟨c, hc⟩ := own_T hown em
     exact ne_T hgi hc (by decide) rfl
   · rw [if_neg e, sgS_grow hi, if_neg e]
     refine own_keepB (h.ho j hj) (fun m em => ?_)
     obtain ⟨c, hc⟩ := own_T (h.ho j hj) em
     exact hne _ _ _ hc (fun x => e (h.vi j i m hj hi em x.symm)) (fun x => by rw [x] at hc; exact ne_T (h.hg i hi) hc (by decide) rfl)
 · rw [hlen]
   intro j l m hj hl
   have hnew : ∀ j, j < ss.length → j ≠ i → (v j).ownBlock = some m → v'.ownBlock = some m → False := fun j hj hne e1 e2 => by
    rcases hat with e | e
    · exact hne (h.vi j i m hj hi e1 (by rw [← e]; exact e2))
    · rw [e] at e2
      injection e2 with e2
      have := ((h.ho j hj).lt m e1).2
      omega
   by_cases ej : j = i <;> by_cases el : l = i
   · intro _ _; rw [ej, el]
   · rw [if_pos ej, if_neg el]; intro e1 e2; exact (hnew l hl el e2 e1).elim
   · rw [if_neg ej, if_pos el]; intro e1 e2; exact (hnew j hj ej e1 e2).elim
   · rw [if_neg ej, if_neg el]; exact h.vi j l m hj hl
theorem Bu.more {w wa w1 : World} {base b size W : Nat} {ss : Segs} {row : Value} {g : Nat → Nat} {v : Nat → Value} (h : Bu w base b size W ss row g v) (hBw : base ≤ w.heap.size) (hwa : Below w.heap.size w wa) (hwn : wa.heap[w.heap.size]? = some (.cells #[.slice none 0 0] sgT (0, 0))) (row' : Value)
 (hown : w1.ownsRow base psgT 1 row' (ss.length + 1) (((List.range ss.length).map fun i => Value.pointer (some ⟨g i, 0, none⟩)) ++ [.pointer (some ⟨w.heap.size, 0, none⟩)]))
 (hgrow : wa.grownBy w1 row.ownBlock) :
 Bu (w1.setCell ⟨b, 0, none⟩ row') base b size W (ss ++ [[]]) row' (fun j => if j = ss.length then w.heap.size else g j) (fun j => if j = ss.length then .slice none 0 0 else v j) := by
 have hnew : w1.heap[w.heap.size]? = some (.cells #[.slice none 0 0] sgT (0, 0)) := (hgrow.block _ (row_lt hwn) (fun e => by have := (h.hr.lt _ e.symm).2; omega)).trans hwn
 have hne : ∀ (m : Nat) (y : Array Value) (T : TypeId), w.heap[m]? = some (Obj.cells y T (0, 0)) → T ≠ psgT → w1.heap[m]? = w.heap[m]? := fun m y T hm hT =>
  (hgrow.block m (by have := row_lt hm; have := hwa.size; omega) (fun e => by obtain ⟨c, hc⟩ := own_T h.hr e.symm; exact ne_T hm hc hT rfl)).trans (hwa.block m (row_lt hm))
 have hb1 : w1.heap[b]? = some (.cells #[row, .int .i64 size, .int .i64 (W : Nat)] buT (0, 0)) := (hne _ _ _ h.hb (by decide)).trans h.hb
 have hlen : (ss ++ [[]]).length = ss.length + 1 := by simp
 refine ⟨row_setN hb1 0 row', ?_, fun j hj => ?_, fun j hj => ?_, ?_, ?_, h.lo, ?_⟩
 · rw [hlen]
   have hl : (List.range (ss.length + 1)).map (fun j => Value.pointer (some ⟨if j = ss.length then w.heap.size else g j, 0, none⟩)) = ((List.range ss.length).map fun i => Value.pointer (some ⟨g i, 0, none⟩)) ++ [.pointer (some ⟨w.heap.size, 0, none⟩)] := by
    rw [List.range_succ, List.map_append]
    congr 1
    · apply List.map_congr_left
      intro j hj
      rw [if_neg (by have := List.mem_range.1 hj; omega)]
    · simp
   rw [hl]
   refine own_keepB hown (fun m em => Below.heap_setCell w1 ⟨b, 0, none⟩ row' m ?_)
   intro e2
   rw [e2] at em
   obtain ⟨c, hc⟩ := own_T hown em
   exact ne_T hb1 hc (by decide) rfl
 · rw [hlen] at hj
   by_cases e : j = ss.length
   · rw [if_pos e, if_pos e]
     exact (Below.heap_setCell w1 ⟨b, 0, none⟩ row' _ (by have := row_lt h.hb; show w.heap.size ≠ b; omega)).trans hnew
   · rw [if_neg e, if_neg e]
     have hj' : j < ss.length := by omega
     exact (Below.heap_setCell w1 ⟨b, 0, none⟩ row' _ (ne_T (h.hg j hj') h.hb (by decide))).trans ((hne _ _ _ (h.hg j hj') (by decide)).trans (h.hg j hj'))
 · rw [hlen] at hj
   by_cases e : j = ss.length
   · subst e
     rw [if_pos rfl, sgS_app, if_pos rfl]
     exact World.ownsRow_nil _ _ _ _
   · rw [if_neg e, sgS_app, if_neg e]
     have hj' : j < ss.length := by omega
     refine own_keepB (h.ho j hj') (fun m em => ?_)
     obtain ⟨c, hc⟩ := own_T (h.ho j hj') em
     exact (Below.heap_setCell w1 ⟨b, 0, none⟩ row' _ (ne_T hc h.hb (by decide))).trans (hne _ _ _ hc (by decide))
 · rw [hlen]
   intro j l hj hl e
   have hg : ∀ j, j < ss.length → g j < w.heap.size := fun j hj => row_lt (h.hg j hj)
   by_cases ej : j = ss.length <;> by_cases el : l = ss.length
   · rw [ej, el]
   · rw [if_pos ej, if_neg el] at e; have := hg l (by omega); omega
   · rw [if_neg ej, if_pos el] at e; have := hg j (by omega); omega
   · rw [if_neg ej, if_neg el] at e; exact h.gi j l (by omega) (by omega) e
 · rw [hlen]
   intro j l m hj hl
   by_cases ej : j = ss.length <;> by_cases el : l = ss.length
   · intro _ _; rw [ej, el]
   · rw [if_pos ej]; intro e; cases e
   · rw [if_pos el]; intro _ e; cases e
   · rw [if_neg ej, if_neg el]; exact h.vi j l m (by omega) (by omega)
 · rw [hlen]
   intro j hj
   by_cases e : j = ss.length
   · rw [if_pos e]; exact hBw
   · rw [if_neg e]; exact h.gl j (by omega)
theorem Bu.words {w : World} {base b size W : Nat} {ss : Segs} {row : Value} {g : Nat → Nat} {v : Nat → Value} (h : Bu w base b size W ss row g v) (W' : Nat) : Bu (w.setCell ⟨b, 2, none⟩ (.int .i64 (W' : Nat))) base b size W' ss row g v := by
 have hne : ∀ (m : Nat) (y : Array Value) (T : TypeId), w.heap[m]? = some (Obj.cells y T (0, 0)) → T ≠ buT → (w.setCell ⟨b, 2, none⟩ (.int .i64 (W' : Nat))).heap[m]? = w.heap[m]? := fun m y T hm hT => Below.heap_setCell w ⟨b, 2, none⟩ _ m (ne_T hm h.hb hT)
 exact ⟨row_setN h.hb 2 _, own_keepB h.hr (fun m e => by obtain ⟨c, hc⟩ := own_T h.hr e; exact hne _ _ _ hc (by decide)), fun i hi => (hne _ _ _ (h.hg i hi) (by decide)).trans (h.hg i hi), fun i hi => own_keepB (h.ho i hi) (fun m e => by obtain ⟨c, hc⟩ := own_T (h.ho i hi) e; exact hne _ _ _ hc (by decide)), h.gi, h.vi, h.lo, h.gl⟩
abbrev wdsT : TypeId := 114
theorem infoWd : (Tryz.prog.info? wdT).map (fun i => (i.zero, i.size, i.bytes)) = some (some (.agg #[.int .u8 0, .int .u8 0, .int .u8 0, .int .u8 0, .int .u8 0, .int .u8 0, .int .u8 0, .int .u8 0]), 8, 8) := by kernel_rfl
abbrev zWd : Value := .agg #[.int .u8 0, .int .u8 0, .int .u8 0, .int .u8 0, .int .u8 0, .int .u8 0, .int .u8 0, .int .u8 0]
def zrow (k : Nat) : List Value := List.replicate (8 * k) (.int .u8 0)
theorem zrow_len (k : Nat) : (zrow k).length = k * 8 := by simp [zrow]; omega
theorem zrow_one (k : Nat) : ∀ u ∈ zrow k, u.oneCell' = true := fun u h => by rw [List.eq_of_mem_replicate h]; rfl
theorem zero_cellsW (k : Nat) : (Builtin.zeroCells zWd.cells k).toList = zrow k := by
 have hz : zWd.cells = #[.int .u8 0, .int .u8 0, .int .u8 0, .int .u8 0, .int .u8 0, .int .u8 0, .int .u8 0, .int .u8 0] := rfl
 rw [hz]
 apply List.ext_getElem?
 intro j
 rw [Array.getElem?_toList]
 unfold Builtin.zeroCells zrow
 rw [Array.getElem?_map, List.getElem?_replicate]
 by_cases hj : j < k * 8
 · rw [Array.getElem?_range, if_pos (by simpa using hj), if_pos (by omega)]
   simp only [Option.map_some]
   have hm : j % 8 = 0 ∨ j % 8 = 1 ∨ j % 8 = 2 ∨ j % 8 = 3 ∨ j % 8 = 4 ∨ j % 8 = 5 ∨ j % 8 = 6 ∨ j % 8 = 7 := by omega
   show some (#[Value.int .u8 0, .int .u8 0, .int .u8 0, .int .u8 0, .int .u8 0, .int .u8 0, .int .u8 0, .int .u8 0][j % 8]!) = _
   rcases hm with e | e | e | e | e | e | e | e <;> rw [e] <;> rfl
 · rw [Array.getElem?_range, if_neg (by simpa using hj), if_neg (by omega)]
   rfl
theorem run_append_zw (ty : TypeId) (w : World) (base : Nat) (hbase : base ≤ w.heap.size) (v : Value) (n : Nat) (xs : List Value) (hown : w.ownsRow base wdT 8 v n xs) (k : Nat) (hb : n + k ≤ 3000000) :
 ∃ v' w', (Builtin.append_ #[wdsT, 3] ty #[v, .int .i64 (k : Int)]).run Tryz.prog w = .ok v' w' ∧ w'.ownsRow base wdT 8 v' (n + k) (xs ++ zrow k) ∧ w.grownBy w' v.ownBlock ∧ (v'.ownBlock = v.ownBlock ∨ v'.ownBlock = some w.heap.size) := by
 obtain ⟨i0, hi, hz0, hz1, hz2⟩ := info_parts infoWd
 have hu : Tryz.prog.underlying wdsT = some (.slice wdT) := Tryz.underlying114
 have hti : Tryz.prog.underlying 3 = some (.int .i64) := Tryz.underlying3
 have hrl : (zrow k).length = k * 8 := zrow_len k
 have hlen : (xs ++ zrow k).length = (n + k) * 8 := by rw [List.length_append, hown.1, hrl, Nat.add_mul]
 have hzs : (Builtin.zeroCells zWd.cells k).size = k * 8 := by rw [size_zeroCells]; rfl
 have grown : ∀ (old : Nat), old < n + k → ∀ (row : Option Nat),
  (w.drew.alloc (.cells (xs.toArray ++ Builtin.zeroCells zWd.cells k ++ Builtin.zeroCells zWd.cells (grownCap w (n + k) old wdT - (n + k))) wdT)).ownsRow base wdT 8
   (.slice (some ⟨w.heap.size, 0, none⟩) (n + k) (grownCap w (n + k) old wdT)) (n + k) (xs ++ zrow k) ∧
  w.grownBy (w.drew.alloc (.cells (xs.toArray ++ Builtin.zeroCells zWd.cells k ++ Builtin.zeroCells zWd.cells (grownCap w (n + k) old wdT - (n + k))) wdT)) row := by
  intro old ho row
  have hge := grownCap_ge w (n + k) old wdT
  have hcm : grownCap w (n + k) old wdT ≤ maxLen := grownCap_le_maxLen w (n + k) old wdT (by unfold maxLen; omega)
  refine ⟨⟨hlen, .inr ⟨w.heap.size, _, _, rfl, hbase, heap_alloc_new w.drew _, hge, hcm, ?_, ?_⟩⟩, ⟨rfl, rfl, rfl, by simp, fun j hj _ => Below.heap_alloc w.drew _ j hj⟩⟩
  · have h1 : (Builtin.zeroCells zWd.cells (grownCap w (n + k) old wdT - (n + k))).size = (grownCap w (n + k) old wdT - (n + k)) * 8 := by rw [size_zeroCells]; rfl
    have h2 := hown.1
    simp only [Array.size_append, List.size_toArray, hzs, h1]
    omega
  · simp only [Array.toList_append, List.append_assoc, zero_cellsW]
    rw [← List.append_assoc, ← hlen]
    exact List.take_left
 rcases hown.2 with ⟨rfl, rfl⟩ | ⟨g, cap, cur, rfl, hbg, hg, hnc, hcm, hcs, htake⟩
 · have hx : xs = [] := List.eq_nil_of_length_eq_zero (by simpa using hown.1)
   subst hx
   by_cases hm : k = 0
   · subst hm
     refine ⟨.slice none 0 0, w, ?_, World.ownsRow_nil w base wdT 8, ⟨rfl, rfl, rfl, Nat.le_refl _, fun _ _ _ => rfl⟩, .inl rfl⟩
     simp [Builtin.append_, run_underlying hu, run_underlying hti, sizeOf, typeInfo, hi, asInt, asIntOf, IntKind.wrap_i64]
   · have hr := Lib.run_append_nil_zeros (P := Tryz.prog) w wdsT 3 ty wdT i0 _ .i64 .i64 hu hti hi hz0 k (by omega) (by rw [hz1]; decide) (by omega) (by rw [hz2]; omega)
     have hgr := grown 0 (by omega) (Value.ownBlock (.slice none 0 0))
     simp only [Nat.zero_add, List.nil_append, Array.empty_append] at hgr ⊢
     exact ⟨_, _, hr, hgr.1, hgr.2, Or.inr rfl⟩
 · by_cases hroom : n + k ≤ cap
   · have hst := run_storeCells_at Tryz.prog g (n * 8) wdT (zrow k) 0 cur w hg (by rw [hrl, hcs]; omega) (zrow_one _)
     simp only [Nat.add_zero] at hst
     have hr : (Builtin.append_ #[wdsT, 3] ty #[.slice (some ⟨g, 0, none⟩) n cap, .int .i64 (k : Int)]).run Tryz.prog w = .ok (.slice (some ⟨g, 0, none⟩) (n + k) cap) (w.setRow g (cur.toList.take (n * 8) ++ zrow k ++ cur.toList.drop (n * 8 + (zrow k).length)).toArray) := by
      have hw : IntKind.i64.wrap (k : Int) = k := by rw [IntKind.wrap_i64]; omega
      have hneg : ¬ ((k : Int) < 0) := by omega
      have h48i : ¬ (281474976710656 < (k : Int) * 8) := by omega
      by_cases hk0 : k = 0
      · subst hk0
        have hst0 := hst
        simp [zrow, storeCells] at hst0
        simp [Builtin.append_, run_underlying hu, run_underlying hti, sizeOf, typeInfo, hi, hz2, asInt, asIntOf, hnc, IntKind.wrap_i64, storeCells, zrow]
        exact hst0
      · have hns : ¬ (k * 8 = 0) := by omega
        simp [Builtin.append_, run_underlying hu, run_underlying hti, sizeOf, typeInfo, zeroValue, hi, hz0, hz1, hz2, asInt, asIntOf, hw, hneg, h48i, hns, hroom, Addr.add_lit, zero_cellsW, hst]
     refine ⟨_, _, hr, ⟨hlen, .inr ⟨g, cap, _, rfl, hbg, setRow_heap w g cur _ wdT _ hg, hroom, hcm, ?_, ?_⟩⟩, ⟨rfl, rfl, rfl, by simp, fun k _ hk => setRow_other w g k _ (fun e => hk (by simp [Value.ownBlock, e]))⟩, Or.inl rfl⟩
     · simp only [List.size_toArray, List.length_append, List.length_take, List.length_drop, Array.length_toList]
       omega
     · rw [htake, ← hlen]
       exact List.take_left
   · have holds : ∀ j u, xs[j]? = some u → w.cell? ((⟨g, 0, none⟩ : Addr).add j) = some u := hown.cells (g := g) rfl
     have hold : (Builtin.firstCells i0.size n (.slice (some ⟨g, 0, none⟩) n cap)).run Tryz.prog w.drew = .ok xs.toArray w.drew := by
      rw [hz1]
      exact run_firstCells_some (P := Tryz.prog) w.drew 8 n ⟨g, 0, none⟩ n cap xs hown.1 (by simpa using holds)
     have hr := Lib.run_append_grow_zeros (P := Tryz.prog) w wdsT 3 ty wdT i0 _ .i64 .i64 hu hti hi hz0 (some ⟨g, 0, none⟩) n cap xs hold k (by omega) (by rw [hz1]; decide) (by omega) (by omega) (by rw [hz2]; omega) (by rw [hz2]; exact growslice_fits (by omega) (by omega))
     have hgr := grown cap (by omega) (Value.ownBlock (.slice (some ⟨g, 0, none⟩) n cap))
     exact ⟨_, _, hr, hgr.1, hgr.2, Or.inr rfl⟩
theorem own_sliceW {w : World} {B T sz n : Nat} {v : Value} {xs : List Value} (h : w.ownsRow B T sz v n xs) : ∃ A c, v = .slice A n c := by
 rcases h.2 with ⟨rfl, rfl⟩ | ⟨g, cap, _, rfl, _⟩
 · exact ⟨none, 0, rfl⟩
 · exact ⟨_, cap, rfl⟩
theorem wpList_append_zw {ops : Array Oper} {rest : List Oper} {o : Oper} {a : Act} {w : World} {Q : Exit → Act → World → Prop} (hgd : o.guard = none) (s x : Operand)
 (ho : o.op = .call { callee := .builtin .append, args := #[s, x], argTypes := #[wdsT, 3] }) (base : Nat) (hbase : base ≤ w.heap.size)
 (v : Value) (n : Nat) (xs : List Value) (hs : a.eval s = v) (hown : w.ownsRow base wdT 8 v n xs) (k : Nat) (hx : a.eval x = .int .i64 (k : Int)) (hb : n + k ≤ 3000000)
 (h : ∀ A' c' w', Hid (w'.ownsRow base wdT 8 (.slice A' (n + k) c') (n + k) (xs ++ zrow k)) → Hid (w.grownBy w' v.ownBlock) → Hid ((Value.slice A' (n + k) c').ownBlock = v.ownBlock ∨ (Value.slice A' (n + k) c').ownBlock = some w.heap.size) → wpList Tryz.prog ops Q rest (a.put o.dst (.slice A' (n + k) c')) w') :
 wpList Tryz.prog ops Q (o :: rest) a w :=
 wpList_plain hgd fun K hK => by
  obtain ⟨v', w', hr, h2, h3, h5⟩ := run_append_zw o.type w base hbase v n xs hown k hb
  obtain ⟨A', c', rfl⟩ := own_sliceW h2
  unfold Oper.wp execOp
  simp only [ho, resolve, invoke, builtin, Sem.run_bind, Sem.run_pure, Result.andThen_ok, List.map_toArray, List.map_cons, List.map_nil, hs, hx, hr]
  exact hK _ _ (h A' c' w' h2 h3 h5)
open Go.RowKit Go.Deep
abbrev tmT : TypeId := 112
theorem infoPs : (Tryz.prog.info? psgT).map (fun i => (i.zero, i.size, i.bytes)) = some (some (.pointer none), 1, 8) := by kernel_rfl
def Too (P : Nat → Prop) (w : World) (e : Ending) (w' : World) : Prop := e = .panicked [{ v := .iface tmT (.agg #[]), recovered := false }] ∧ KP P w w'
def OpenB (base b size : Nat) (ss : Segs) (P : Nat → Prop) (w : World) (e : Ending) (w' : World) : Prop :=
 e = .returned (.int .i64 (ss.length : Int)) ∧ KP P w w' ∧ Bun w' base b size (ss ++ [[]]) (fun k => P k ∨ w.heap.size ≤ k)
theorem open_full (base b size : Nat) (ss : Segs) (P : Nat → Prop) (w : World) (h : Bun w base b size ss P) (h6 : ss.length = 6) :
 Calls Tryz.prog 36 #[.pointer (some ⟨b, 0, none⟩)] w (Too P w) := by
 obtain ⟨row, g, v, hB, hP⟩ := h
 obtain ⟨r, cap, rfl, hrow⟩ := hB.row (i := 0) (by omega)
 obtain ⟨c0, c1, c2⟩ := cells3 hB.hb
 rw [h6] at c0
 clear hB hP hrow h6
 go_enter Tryz.func36, Tryz.ntmps36
 go_wp2
 exact ⟨rfl, rfl, KP.refl _ _⟩
theorem cell_second (w : World) (o : Obj) (v : Value) (T : TypeId) : ∀ (j : Nat) (u : Value), [v][j]? = some u → ((w.alloc o).alloc (.cells #[v] T)).cell? ((⟨w.heap.size + 1, 0, none⟩ : Addr).add j) = some u := by
 intro j u h
 have := cell_one_new (w.alloc o) v T j u h
 simpa using this
theorem open_more (base b size : Nat) (ss : Segs) (P : Nat → Prop) (w : World) (h : Bun w base b size ss P) (h6 : ss.length < 6) :
 Calls Tryz.prog 36 #[.pointer (some ⟨b, 0, none⟩)] w (OpenB base b size ss P w) := by
 obtain ⟨i0, hi, hz0, hz1, hz2⟩ := info_parts infoPs
 obtain ⟨row, g, v, hB, hP⟩ := h
 obtain ⟨A, cap, rfl⟩ := own_sliceW hB.hr
 have hbl := hB.lt b (.inl rfl)
 have hb1 : ((ss.length : Int) == 6) = false := by simp; omega
 have hwa : Below w.heap.size w ((w.alloc (.cells #[.slice none 0 0] sgT)).alloc (.cells #[.pointer (some ⟨w.heap.size, 0, none⟩)] psgT)) := ((Below.refl _ w).alloc (Nat.le_refl _) _).alloc (by simp) _
 have hwn : ((w.alloc (.cells #[.slice none 0 0] sgT)).alloc (.cells #[.pointer (some ⟨w.heap.size, 0, none⟩)] psgT)).heap[w.heap.size]? = some (.cells #[.slice none 0 0] sgT (0, 0)) := heap_alloc_keep (heap_alloc_new w _) _
 obtain ⟨c0, c1, c2⟩ := cells3 hB.hb
 have HR := Lib.hid (own_keepB hB.hr (fun k e => hwa.block k (hB.hr.lt k e).2))
 have HB := Lib.hid hB
 have HWA := Lib.hid hwa
 have HWN := Lib.hid hwn
 have HP := Lib.hid hP
 have HL := Lib.hid h6
 clear hB hP hwa hwn
 go_enter Tryz.func36, Tryz.ntmps36
 go_wp2_with (at_builtin; refine wpList_append_own_at _ rfl (.tmp 15) (.tmp 17) 53 rfl base psgT i0 (.pointer none) 1 8 Tryz.underlying53 hi hz0 hz1 hz2 rfl (by decide) _ ss.length _ rfl ((HB.out.hr.alloc _).alloc _) ⟨w.heap.size + 1, 0, none⟩ 1 1 [.pointer (some ⟨w.heap.size, 0, none⟩)] ?c0 rfl ?c1 (by simp [Value.oneCell']) (by unfold maxLen; omega) (by omega) (by simp; omega) ?_)
 case c0 => rfl
 case c1 => exact cell_second _ _ _ _
 intro v' w1 hown' hgrow _ hat
 obtain ⟨A', c', rfl⟩ := own_sliceW hown'
 have hB1 := HB.out.more (by omega) HWA.out HWN.out _ hown' hgrow
 have hb1 := hB1.hb
 have hbr : (w1.setCell ⟨b, 0, none⟩ (.slice A' (ss.length + 1) c')).heap[b]? = some (.cells #[.slice A' (ss.length + 1) c', .int .i64 size, .int .i64 (totS ss : Nat)] buT (0, 0)) := hb1
 have hk1 : KP P w w1 := ⟨hgrow.os.trans HWA.out.os, hgrow.tape.trans HWA.out.tape, hgrow.output.trans HWA.out.output, Nat.le_trans HWA.out.size hgrow.size, fun k hk hn => (hgrow.block k (by simp; omega) (fun e => hn (HP.out k (.inr (.inl e.symm))))).trans (HWA.out.block k hk)⟩
 have hk2 : KP P w (w1.setCell ⟨b, 0, none⟩ (.slice A' (ss.length + 1) c')) := hk1.trans (KP.set (HP.out b (.inl rfl)) w1 0 _) (fun _ _ h => h)
 have hfin : Bun (w1.setCell ⟨b, 0, none⟩ (.slice A' (ss.length + 1) c')) base b size (ss ++ [[]]) (fun k => P k ∨ w.heap.size ≤ k) := by
  refine ⟨_, _, _, by rw [totS_app]; exact hB1, ?_⟩
  rintro k (rfl | e | ⟨i, hi, e | e⟩)
  · exact .inl (HP.out _ (.inl rfl))
  · rcases hat with e2 | e2
    · exact .inl (HP.out _ (.inr (.inl (by rw [← e2]; exact e))))
    · rw [e2] at e; injection e with e; right; omega
  · rw [e]; dsimp only; split
    · exact .inr (Nat.le_refl _)
    · exact .inl (HP.out _ (.inr (.inr ⟨i, by simp at hi; omega, .inl rfl⟩)))
  · dsimp only at e; split at e
    · cases e
    · exact .inl (HP.out _ (.inr (.inr ⟨i, by simp at hi; omega, .inr e⟩)))
 have cb := cells3 hbr
 have hfr : w1.frozen? ⟨b, 0, none⟩ = false ∧ (∃ u, w1.cell? ⟨b, 0, none⟩ = some u) := by
  have h1 : w1.heap[b]? = some (.cells #[.slice A ss.length cap, .int .i64 size, .int .i64 (totS ss : Nat)] buT (0, 0)) := (hgrow.block b (by simp; omega) (fun e => by obtain ⟨c, hc⟩ := own_T HB.out.hr e.symm; exact ne_T HB.out.hb hc (by decide) rfl)).trans ((HWA.out.block b hbl.2).trans HB.out.hb)
  exact ⟨row_free h1 0, _, (cells3 h1).1⟩
 obtain ⟨hf0, u0, hu0⟩ := hfr
 have HK := Lib.hid hk2
 have HF := Lib.hid hfin
 have hc0 := cb.1
 clear hb1 hbr hk1 hk2 hfin cb hown' hgrow hat hB1 c0 c1 c2
 go_wp2
 go_ret
 exact ⟨rfl, HK.out, HF.out⟩
end Go.Proofs.YtlbfffokkhccaaaGreatDoor
