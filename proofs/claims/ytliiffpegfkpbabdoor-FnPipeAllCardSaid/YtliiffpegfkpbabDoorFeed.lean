/- What PipeFeed tells, as plain facts; lists of lists of texts of one's own; the program's steps. -/
import Derived.Test.YtliiffpegfkpbabDoorPipe
import Derived.Test.YtliiffpegfkpbabDoorFrameGetI
import Derived.Maps.AppendAt
import Derived.Deep.LoopGhost
namespace Go.Proofs.YtliiffpegfkpbabDoor
open Go.RowKit
/-- a whole frame has eight bytes at least, and no more than the text. -/
theorem fg_whole {s : ByteArray} (h : 0 < (fg s).1) : ∃ n : Nat, (fg s).1 = (n : Int) ∧ 8 ≤ n ∧ n ≤ s.size := by
  revert h
  unfold fg fgHead
  repeat' split
  all_goals first | (intro h; simp at h; done) | (intro h; exact ⟨_, rfl, by omega, by omega⟩)
theorem fg_short {s : ByteArray} (h : (fg s).1 ≤ 0) : (fg s).1 = 0 ∨ (fg s).1 = -1 := by
  have := (fg_code s).1
  omega
/-- broken; what is left; the frames. -/
abbrev Fed := Bool × ByteArray × List (List ByteArray)
def feedN : Nat → ByteArray → Fed
  | 0, s => (false, s, [])
  | k + 1, s => if (fg s).1 < 0 then (true, ⟨#[]⟩, []) else if (fg s).1 = 0 then (false, s, []) else ((feedN k (s.extract (fg s).1.toNat s.size)).1, (feedN k (s.extract (fg s).1.toNat s.size)).2.1, (fg s).2 :: (feedN k (s.extract (fg s).1.toNat s.size)).2.2)
/-- frame by frame. -/
def feedB (s : ByteArray) : Fed := feedN (s.size + 1) s
theorem cut_size (s : ByteArray) (n : Nat) (h : n ≤ s.size) : (s.extract n s.size).size = s.size - n := by simp
theorem feedN_more : ∀ (k : Nat) (s : ByteArray), s.size < k → feedN k s = feedB s := by
  intro k
  induction k with
  | zero => intro s h; omega
  | succ k ih =>
    intro s h
    unfold feedB
    rw [feedN, feedN]
    by_cases h1 : (fg s).1 < 0
    · rw [if_pos h1, if_pos h1]
    · rw [if_neg h1, if_neg h1]
      by_cases h2 : (fg s).1 = 0
      · rw [if_pos h2, if_pos h2]
      · rw [if_neg h2, if_neg h2]
        obtain ⟨n, hn, h8, hle⟩ := fg_whole (s := s) (by omega)
        have hc : (s.extract (fg s).1.toNat s.size).size = s.size - n := by rw [hn]; exact cut_size s n hle
        have e1 := ih (s.extract (fg s).1.toNat s.size) (by omega)
        have e2 : feedN s.size (s.extract (fg s).1.toNat s.size) = feedB (s.extract (fg s).1.toNat s.size) := by
          by_cases hk : s.size ≤ k
          · have : ∀ j, (s.extract (fg s).1.toNat s.size).size < j → j ≤ k → feedN j (s.extract (fg s).1.toNat s.size) = feedB (s.extract (fg s).1.toNat s.size) := by
              intro j hj1 hj2
              have hm : ∀ (a b : Nat) (t : ByteArray), t.size < a → a ≤ b → feedN a t = feedN b t := by
                intro a
                induction a with
                | zero => intro b t ht; omega
                | succ a iha =>
                  intro b t ht hab
                  obtain ⟨b, rfl⟩ : ∃ c, b = c + 1 := ⟨b - 1, by omega⟩
                  rw [feedN, feedN]
                  by_cases g1 : (fg t).1 < 0
                  · rw [if_pos g1, if_pos g1]
                  · rw [if_neg g1, if_neg g1]
                    by_cases g2 : (fg t).1 = 0
                    · rw [if_pos g2, if_pos g2]
                    · rw [if_neg g2, if_neg g2]
                      obtain ⟨m, hm, m8, mle⟩ := fg_whole (s := t) (by omega)
                      have hmc : (t.extract (fg t).1.toNat t.size).size = t.size - m := by rw [hm]; exact cut_size t m mle
                      rw [iha b _ (by omega) (by omega)]
              rw [hm j k _ hj1 hj2]
              exact e1
            exact this s.size (by omega) hk
          · omega
        rw [e1, e2]
theorem feed_bad {s : ByteArray} (h : (fg s).1 < 0) : feedB s = (true, ⟨#[]⟩, []) := by
  unfold feedB; rw [feedN, if_pos h]
theorem feed_wait {s : ByteArray} (h : (fg s).1 = 0) : feedB s = (false, s, []) := by
  unfold feedB; rw [feedN, if_neg (by omega), if_pos h]
theorem feed_more {s : ByteArray} {n : Nat} (h : (fg s).1 = (n : Int)) (h1 : 0 < n) (hle : n ≤ s.size) : feedB s = ((feedB (s.extract n s.size)).1, (feedB (s.extract n s.size)).2.1, (fg s).2 :: (feedB (s.extract n s.size)).2.2) := by
  have hc := cut_size s n hle
  conv => lhs; unfold feedB
  rw [feedN, if_neg (by omega), if_neg (by omega), show (fg s).1.toNat = n by omega, feedN_more _ _ (by omega)]
/-- what PipeFeed answers. -/
def pipeF (s : ByteArray) (b : Bool) (t : ByteArray) : Fed :=
  if pipeB s b = false ∨ 4000 < t.size then (false, ⟨#[]⟩, []) else if b then (true, ⟨#[]⟩, []) else feedB (s ++ t)
/-- texts side by side, of one's own. -/
abbrev Inn := Value × List ByteArray
def ibs (q : List Inn) : List Nat := q.filterMap fun r => r.1.ownBlock
theorem ibs_snoc (q : List Inn) (r : Inn) : ibs (q ++ [r]) = ibs q ++ ibs [r] := by unfold ibs; rw [List.filterMap_append]
/-- lists of texts side by side, each of one's own, each block once. -/
structure SS (w : World) (B : Nat) (v : Value) (q : List Inn) : Prop where
  out : w.ownsRow B 23 1 v q.length (q.map (·.1))
  inn : ∀ r ∈ q, w.ownsRow B 9 1 r.1 r.2.length (r.2.map Value.string)
  nod : (ibs q).Nodup
  sep : ∀ b ∈ ibs q, some b ≠ v.ownBlock
theorem SS.nil (w : World) (B : Nat) : SS w B (.slice none 0 0) [] := ⟨World.ownsRow_nil _ _ _ _, fun r h => (by cases h), List.nodup_nil, fun b h => (by cases h)⟩
theorem SS.ltI {w : World} {B : Nat} {v : Value} {q : List Inn} (h : SS w B v q) : ∀ b ∈ ibs q, B ≤ b ∧ b < w.heap.size := by
  intro b hb
  obtain ⟨r, hr, hrb⟩ := List.mem_filterMap.1 hb
  exact (h.inn r hr).lt b hrb
theorem SS.frame {w w' : World} {B : Nat} {v : Value} {q : List Inn} (h : SS w B v q) (hf : ∀ b, v.ownBlock = some b ∨ b ∈ ibs q → w'.heap[b]? = w.heap[b]?) : SS w' B v q := by
  have hk : ∀ {e n : Nat} {u : Value} {xs : List Value}, w.ownsRow B e 1 u n xs → (∀ b, u.ownBlock = some b → w'.heap[b]? = w.heap[b]?) → w'.ownsRow B e 1 u n xs := by
    intro e n u xs ho hb
    refine ⟨ho.1, ?_⟩
    rcases ho.2 with hn | ⟨g, cap, cur, rfl, h1, h2, h3⟩
    · exact .inl hn
    · exact .inr ⟨g, cap, cur, rfl, h1, (hb g rfl).trans h2, h3⟩
  exact ⟨hk h.out (fun b e => hf b (.inl e)), fun r hr => hk (h.inn r hr) (fun b e => hf b (.inr (List.mem_filterMap.2 ⟨r, hr, e⟩))), h.nod, h.sep⟩
theorem SS.below {w w' : World} {B : Nat} {v : Value} {q : List Inn} (h : SS w B v q) (hb : Below w.heap.size w w') : SS w' B v q :=
  h.frame (fun b hm => hb.block b (by
    rcases hm with e | hm
    · exact (h.out.lt b e).2
    · exact (h.ltI b hm).2))
theorem SS.store {w : World} {B g i : Nat} {u v : Value} {q : List Inn} (h : SS w B v q) (hg : g < B) : SS (w.setCell ⟨g, i, none⟩ u) B v q :=
  h.frame (fun b hm => Below.heap_setCell w ⟨g, i, none⟩ u b (by
    show b ≠ g
    rcases hm with e | hm
    · have := (h.out.lt b e).1; omega
    · have := (h.ltI b hm).1; omega))
theorem SS.mono {w : World} {B C : Nat} {v : Value} {q : List Inn} (h : SS w B v q) (hC : C ≤ B) : SS w C v q := by
  have hk : ∀ {e n : Nat} {u : Value} {xs : List Value}, w.ownsRow B e 1 u n xs → w.ownsRow C e 1 u n xs := by
    intro e n u xs ho
    refine ⟨ho.1, ?_⟩
    rcases ho.2 with hn | ⟨g, cap, cur, hv, h1, h2⟩
    · exact .inl hn
    · exact .inr ⟨g, cap, cur, hv, Nat.le_trans hC h1, h2⟩
  exact ⟨hk h.out, fun r hr => hk (h.inn r hr), h.nod, h.sep⟩
/-- one more list is put behind. -/
theorem SS.next {w w' : World} {B H : Nat} {v v' : Value} {q : List Inn} {r : Inn} (h : SS w B v q) (hr : w.ownsRow H 9 1 r.1 r.2.length (r.2.map Value.string)) (hBH : B ≤ H) (hq : ∀ b ∈ ibs q, b < H) (hv : ∀ b, v.ownBlock = some b → b < H)
    (hown : w'.ownsRow B 23 1 v' (q.length + 1) (q.map (·.1) ++ [r.1])) (hgrow : w.grownBy w' v.ownBlock) (hat : v'.ownBlock = v.ownBlock ∨ v'.ownBlock = some w.heap.size) : SS w' B v' (q ++ [r]) := by
  have hsep : ∀ b, b < w.heap.size → some b ≠ v.ownBlock → some b ≠ v'.ownBlock := fun b h1 h2 e => by
    rcases hat with e2 | e2
    · exact h2 (e.trans e2)
    · rw [e2] at e; injection e with e; omega
  have hrb : ∀ b, r.1.ownBlock = some b → H ≤ b ∧ b < w.heap.size ∧ some b ≠ v.ownBlock := fun b e => by
    have := hr.lt b e
    exact ⟨this.1, this.2, fun e2 => by have := hv b e2.symm; omega⟩
  have hk : ∀ {e n : Nat} {u : Value} {xs : List Value} {C : Nat}, w.ownsRow C e 1 u n xs → B ≤ C → (∀ b, u.ownBlock = some b → some b ≠ v.ownBlock) → w'.ownsRow B e 1 u n xs := by
    intro e n u xs C ho hC hb
    refine ⟨ho.1, ?_⟩
    rcases ho.2 with hn | ⟨g, cap, cur, rfl, h1, h2, h3⟩
    · exact .inl hn
    · refine .inr ⟨g, cap, cur, rfl, Nat.le_trans hC h1, ?_, h3⟩
      exact (hgrow.block g (row_lt h2) (hb g rfl)).trans h2
  refine ⟨?_, ?_, ?_, ?_⟩
  · rw [List.length_append, List.map_append]; exact hown
  · intro x hx
    rcases List.mem_append.1 hx with hx | hx
    · exact hk (h.inn x hx) (Nat.le_refl _) (fun b e => h.sep b (List.mem_filterMap.2 ⟨x, hx, e⟩))
    · obtain rfl := List.mem_singleton.1 hx
      exact hk hr hBH (fun b e => (hrb b e).2.2)
  · rw [ibs_snoc]
    refine List.nodup_append.2 ⟨h.nod, ?_, ?_⟩
    · unfold ibs
      simp only [List.filterMap_cons, List.filterMap_nil]
      split <;> simp
    · intro a ha b hb e
      subst e
      have h1 := hq a ha
      obtain ⟨x, hx, hxb⟩ := List.mem_filterMap.1 hb
      obtain rfl := List.mem_singleton.1 hx
      have := (hrb a hxb).1
      omega
  · intro b hb
    rw [ibs_snoc] at hb
    rcases List.mem_append.1 hb with hb | hb
    · exact hsep b (h.ltI b hb).2 (h.sep b hb)
    · obtain ⟨x, hx, hxb⟩ := List.mem_filterMap.1 hb
      obtain rfl := List.mem_singleton.1 hx
      exact hsep b (hrb b hxb).2.1 (hrb b hxb).2.2
theorem infoStrs : (Tryd.prog.info? 23).map (fun i => (i.zero, i.size, i.bytes)) = some (some (.slice none 0 0), 1, 24) := by kernel_rfl
/-- the program's pipe that is fed. -/
def Fd (w : World) (g : Nat) (L : ByteArray) (k : Bool) (told st : Value) : Prop := w.heap[g]? = some (.cells #[.string L, .bool k, told, st] 72 (0, 0))
theorem Fd.below {w w' : World} {g : Nat} {L : ByteArray} {k : Bool} {told st : Value} (h : Fd w g L k told st) (hb : Below w.heap.size w w') : Fd w' g L k told st := (hb.block g (row_lt h)).trans h
theorem Fd.cells {w : World} {g : Nat} {L : ByteArray} {k : Bool} {told st : Value} (h : Fd w g L k told st) : w.cell? ⟨g, 0, none⟩ = some (.string L) ∧ w.cell? ⟨g, 1, none⟩ = some (.bool k) ∧ w.cell? ⟨g, 2, none⟩ = some told ∧ w.cell? ⟨g, 3, none⟩ = some st := by
  unfold Fd at h
  simp [World.cell?, h]
def fNxt (g : Nat) : Value := .func (.func 44) #[.pointer (some ⟨g, 0, none⟩)] #[]
def fBro (g : Nat) : Value := .func (.func 45) #[.pointer (some ⟨g, 0, none⟩)] #[]
end Go.Proofs.YtliiffpegfkpbabDoor
