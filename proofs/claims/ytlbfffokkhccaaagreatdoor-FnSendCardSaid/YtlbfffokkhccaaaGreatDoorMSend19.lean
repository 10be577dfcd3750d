/- Texts of the proof of the law FnSend, side by side: part 19. -/
import Derived.Test.YtlbfffokkhccaaaGreatDoorMSend18
set_option maxHeartbeats 8000000
set_option maxRecDepth 100000
namespace Go.Proofs.YtlbfffokkhccaaaGreatDoor
def zerL (l : List UInt8) : Bool := l.all (· == 0)
def fullL (l : List UInt8) : Bool := l.all (· != 0)
def fewL (l : List UInt8) : Bool := decide ((l.filter (· == 0)).length ≤ 1)
def maskN : List UInt8 → Nat
 | [] => 0
 | b :: r => (if b = 0 then 0 else 1) + 2 * maskN r
def nzL (l : List UInt8) : List UInt8 := l.filter (· != 0)
def runN (p : List UInt8 → Bool) (r : List (List UInt8)) : Nat := ((r.take 255).takeWhile p).length
theorem runN_le (p) (r : List (List UInt8)) : runN p r ≤ r.length ∧ runN p r ≤ 255 := by
 have h := (List.takeWhile_sublist p (l := r.take 255)).length_le
 rw [List.length_take] at h
 unfold runN
 omega
theorem takeWhile_length (p : List UInt8 → Bool) : ∀ (l : List (List UInt8)) (n : Nat), n ≤ l.length → (∀ j (h : j < l.length), j < n → p l[j] = true) → (n = l.length ∨ ∃ h : n < l.length, p l[n] = false) → (l.takeWhile p).length = n
 | [], n, h, _, _ => by simp at h; simp [h]
 | x :: r, 0, _, _, h => by
   rcases h with h | ⟨_, h⟩
   · simp at h
   · simp at h; simp [List.takeWhile_cons, h]
 | x :: r, n + 1, hl, hp, h => by
   have h0 := hp 0 (by simp) (by omega)
   simp at h0
   rw [List.takeWhile_cons, if_pos h0, List.length_cons, takeWhile_length p r n (by simpa using hl) (fun j hj hn => by
    have := hp (j + 1) (by simp; omega) (by omega)
    simpa using this) (by
    rcases h with h | ⟨h1, h⟩
    · left; simpa using h
    · right; exact ⟨by simpa using h1, by simpa using h⟩)]
theorem runN_eq {p : List UInt8 → Bool} {r : List (List UInt8)} {n : Nat} (h1 : n ≤ r.length) (h2 : n ≤ 255) (h3 : ∀ j (h : j < r.length), j < n → p r[j] = true) (h4 : n = 255 ∨ n = r.length ∨ ∃ h : n < r.length, p r[n] = false) : runN p r = n := by
 unfold runN
 refine takeWhile_length p _ n (by rw [List.length_take]; omega) (fun j hj hn => ?_) ?_
 · rw [List.getElem_take]; exact h3 j _ hn
 · by_cases hn : n = (r.take 255).length
   · exact .inl hn
   · rw [List.length_take] at hn
     refine .inr ⟨by rw [List.length_take]; omega, ?_⟩
     rw [List.getElem_take]
     rcases h4 with h | h | ⟨_, h⟩
     · omega
     · omega
     · exact h
def packW : List (List UInt8) → List UInt8
 | [] => []
 | w :: r =>
  if zerL w then 0 :: UInt8.ofNat (runN zerL r) :: packW (r.drop (runN zerL r))
  else if fullL w then 255 :: (w ++ (UInt8.ofNat (runN fewL r) :: ((r.take (runN fewL r)).flatten ++ packW (r.drop (runN fewL r)))))
  else UInt8.ofNat (maskN w) :: (nzL w ++ packW r)
termination_by ws => ws.length
decreasing_by all_goals (simp; try omega)
def spreadN : Nat → Nat → List UInt8 → List UInt8
 | 0, _, _ => []
 | k + 1, t, bs => if t % 2 = 0 then 0 :: spreadN k (t / 2) bs else bs.headD 0 :: spreadN k (t / 2) bs.tail
def popN : Nat → Nat → Nat
 | 0, _ => 0
 | k + 1, t => t % 2 + popN k (t / 2)
theorem spreadN_length : ∀ (k t : Nat) (bs : List UInt8), (spreadN k t bs).length = k
 | 0, _, _ => rfl
 | k + 1, t, bs => by rw [spreadN]; split <;> simp [spreadN_length k]
def stepU : List UInt8 → Option (List UInt8 × List UInt8)
 | [] => none
 | t :: r =>
  if r.length < popN 8 t.toNat then none else
  if t = 0 then (if r.length = 0 then none else some (List.replicate (8 * ((r.headD 0).toNat + 1)) 0, r.tail))
  else if t = 255 then (if r.length < 9 + 8 * ((r.drop 8).headD 0).toNat then none else some (r.take 8 ++ (r.drop 9).take (8 * ((r.drop 8).headD 0).toNat), (r.drop 9).drop (8 * ((r.drop 8).headD 0).toNat)))
  else some (spreadN 8 t.toNat (r.take (popN 8 t.toNat)), r.drop (popN 8 t.toNat))
theorem stepU_shorter {l o r : List UInt8} (h : stepU l = some (o, r)) : r.length < l.length := by
 cases l with
 | nil => simp [stepU] at h
 | cons t s =>
  rw [stepU] at h
  split at h
  · cases h
  · split at h
    · split at h
      · cases h
      · simp only [Option.some.injEq, Prod.mk.injEq] at h; obtain ⟨_, rfl⟩ := h; simp; omega
    · split at h
      · split at h
        · cases h
        · simp only [Option.some.injEq, Prod.mk.injEq] at h
          obtain ⟨_, rfl⟩ := h
          simp; omega
      · simp only [Option.some.injEq, Prod.mk.injEq] at h
        obtain ⟨_, rfl⟩ := h
        simp; omega
def unF : Nat → List UInt8 → Option (List UInt8)
 | _, [] => some []
 | 0, _ => none
 | f + 1, t :: r => match stepU (t :: r) with
   | none => none
   | some (o, r') => (unF f r').map (o ++ ·)
def unW (l : List UInt8) : Option (List UInt8) := unF l.length l
theorem unF_more : ∀ (f g : Nat) (l : List UInt8), l.length ≤ f → l.length ≤ g → unF f l = unF g l
 | f, g, [], _, _ => by cases f <;> cases g <;> rfl
 | 0, _, t :: r, h, _ => by simp at h
 | _, 0, t :: r, _, h => by simp at h
 | f + 1, g + 1, t :: r, hf, hg => by
   rw [unF, unF]
   cases hs : stepU (t :: r) with
   | none => rfl
   | some x =>
    obtain ⟨o, r'⟩ := x
    have hsh := stepU_shorter hs
    simp only
    rw [unF_more f g r' (by simp at hsh hf; omega) (by simp at hsh hg; omega)]
theorem unW_nil : unW [] = some [] := rfl
theorem unW_step {l o r : List UInt8} (h : stepU l = some (o, r)) : unW l = (unW r).map (o ++ ·) := by
 cases l with
 | nil => simp [stepU] at h
 | cons t s =>
  have hsh := stepU_shorter h
  rw [unW, List.length_cons, unF, h]
  simp only
  rw [unF_more s.length r.length r (by simp at hsh; omega) (Nat.le_refl _)]
  rfl
theorem unW_bad {l : List UInt8} (h0 : l ≠ []) (h : stepU l = none) : unW l = none := by
 cases l with
 | nil => exact absurd rfl h0
 | cons t s => rw [unW, List.length_cons, unF, h]
theorem stepU_more {l o r : List UInt8} (t : List UInt8) (h : stepU l = some (o, r)) : stepU (l ++ t) = some (o, r ++ t) := by
 cases l with
 | nil => simp [stepU] at h
 | cons x s =>
  rw [stepU] at h
  rw [List.cons_append, stepU]
  split at h
  · cases h
  · rename_i hlen
    rw [if_neg (by simp; omega)]
    split at h
    · rename_i h0
      rw [if_pos h0]
      cases s with
      | nil => simp at h
      | cons c s' =>
       simp only [List.length_cons, List.headD_cons, List.tail_cons, List.cons_append] at h ⊢
       rw [if_neg (by omega)] at h ⊢
       simp only [Option.some.injEq, Prod.mk.injEq] at h ⊢
       obtain ⟨rfl, rfl⟩ := h
       exact ⟨rfl, rfl⟩
    · rename_i h0
      rw [if_neg h0]
      split at h
      · rename_i h255
        rw [if_pos h255]
        split at h
        · cases h
        · rename_i hl
          have e8 : ((s ++ t).drop 8).headD 0 = (s.drop 8).headD 0 := by
           rw [List.drop_append_of_le_length (by omega), List.drop_eq_getElem_cons (show 8 < s.length by omega)]
           rfl
          rw [e8]
          generalize ((s.drop 8).headD 0).toNat = c at hl h ⊢
          rw [if_neg (by simp; omega), List.take_append_of_le_length (by omega), List.drop_append_of_le_length (by omega), List.take_append_of_le_length (by simp; omega), List.drop_append_of_le_length (by simp; omega)]
          simp only [Option.some.injEq, Prod.mk.injEq] at h ⊢
          obtain ⟨rfl, rfl⟩ := h
          exact ⟨rfl, rfl⟩
      · rename_i h255
        rw [if_neg h255]
        simp only [Option.some.injEq, Prod.mk.injEq] at h ⊢
        obtain ⟨rfl, rfl⟩ := h
        rw [List.take_append_of_le_length (by omega), List.drop_append_of_le_length (by omega)]
        exact ⟨rfl, rfl⟩
theorem unF_app (t : List UInt8) : ∀ (f : Nat) (l o : List UInt8), l.length ≤ f → unW l = some o → unW (l ++ t) = (unW t).map (o ++ ·)
 | f, [], o, _, h => by
   rw [unW_nil] at h
   cases h
   simp
 | 0, x :: s, _, h, _ => by simp at h
 | f + 1, x :: s, o, hf, h => by
   cases hs : stepU (x :: s) with
   | none => rw [unW_bad (by simp) hs] at h; cases h
   | some y =>
    obtain ⟨o1, r⟩ := y
    have hsh := stepU_shorter hs
    rw [unW_step hs] at h
    rw [unW_step (stepU_more t hs)]
    cases hr : unW r with
    | none => rw [hr] at h; cases h
    | some o2 =>
     rw [hr] at h
     simp at h
     rw [unF_app t f r o2 (by simp at hsh hf; omega) hr]
     subst h
     cases unW t <;> simp
theorem unW_app {l o : List UInt8} (t : List UInt8) (h : unW l = some o) : unW (l ++ t) = (unW t).map (o ++ ·) := unF_app t l.length l o (Nat.le_refl _) h
open Go.RowKit
def US (B b : Nat) (out : List UInt8) (L : ByteArray) (bad : Bool) (w : World) : Prop := BF 161 B b (Lib.byteCells out) [.string L, .bool bad] w
theorem unpT : LiesB 161 2 := ⟨by decide, by kernel_rfl⟩
theorem US.left {B b : Nat} {out : List UInt8} {L : ByteArray} {bad : Bool} {w : World} (h : US B b out L bad w) : w.cell? ⟨b, 2, none⟩ = some (.string L) := by
 have := BF.cell h 0; simpa using this
theorem US.bad {B b : Nat} {out : List UInt8} {L : ByteArray} {bad : Bool} {w : World} (h : US B b out L bad w) : w.cell? ⟨b, 3, none⟩ = some (.bool bad) := by
 have := BF.cell h 1; simpa using this
theorem US.setLeft {B b : Nat} {out : List UInt8} {L : ByteArray} {bad : Bool} {w : World} (h : US B b out L bad w) (L' : ByteArray) : US B b out L' bad (w.setCell ⟨b, 2, none⟩ (.string L')) := by
 have := BF.set unpT.1 h 0 (.string L'); simpa [US] using this
theorem US.setBad {B b : Nat} {out : List UInt8} {L : ByteArray} {bad : Bool} {w : World} (h : US B b out L bad w) (c : Bool) : US B b out L c (w.setCell ⟨b, 3, none⟩ (.bool c)) := by
 have := BF.set unpT.1 h 1 (.bool c); simpa [US] using this
theorem US.below {B b : Nat} {out : List UInt8} {L : ByteArray} {bad : Bool} {w w' : World} (h : US B b out L bad w) (hb : Below w.heap.size w w') : US B b out L bad w' := BF.below h hb
theorem ubroken_any (B b : Nat) (out : List UInt8) (L : ByteArray) (bad : Bool) (w : World) (h : US B b out L bad w) :
 Calls Tryz.prog 145 #[.pointer (some ⟨b, 0, none⟩)] w fun e w' => e = .returned .nilFunc ∧ US B b out L true w' ∧ Keeps B b w w' := by
 have h1 := BF.frozen h 3
 have h3 := h.bad
 have H2 := Lib.hid (h.setBad true)
 clear h
 go_enter Tryz.func145, Tryz.ntmps145
 go_wp2
 go_ret
 exact ⟨rfl, H2.out, set_keeps B b w 3 _⟩
theorem utake_no (B b : Nat) (out : List UInt8) (L : ByteArray) (bad : Bool) (n : Nat) (w : World) (h : US B b out L bad w) (hn : L.size < n) :
 Calls Tryz.prog 143 #[.pointer (some ⟨b, 0, none⟩), .int .i64 n] w fun e w' => e = .returned (.tuple #[.string ⟨#[]⟩, .bool false]) ∧ w = w' := by
 have h1 := h.left
 have hlt : ((L.size : Nat) : Int) < (n : Int) := by omega
 clear h
 go_enter Tryz.func143, Tryz.ntmps143
 go_wp2
 go_ret2
 exact ⟨rfl, rfl⟩
theorem utake_yes (B b : Nat) (out : List UInt8) (L : ByteArray) (bad : Bool) (n : Nat) (w : World) (h : US B b out L bad w) (hn : n ≤ L.size) :
 Calls Tryz.prog 143 #[.pointer (some ⟨b, 0, none⟩), .int .i64 n] w fun e w' => e = .returned (.tuple #[.string (L.extract 0 n), .bool true]) ∧ US B b out (L.extract n L.size) bad w' ∧ Keeps B b w w' := by
 have h1 := h.left
 have h2 := BF.frozen h 2
 have hlt : ¬ ((L.size : Nat) : Int) < (n : Int) := by omega
 have H2 := Lib.hid (h.setLeft (L.extract n L.size))
 clear h
 go_enter Tryz.func143, Tryz.ntmps143
 go_wp2
 go_ret2
 exact ⟨rfl, H2.out, set_keeps B b w 2 _⟩
def uTag (b : Nat) : Value := .func (.func 103) #[.pointer (some ⟨b, 0, none⟩)] #[]
def uNou (b : Nat) : Value := .func (.func 146) #[.pointer (some ⟨b, 0, none⟩)] #[]
def uPla (b : Nat) : Value := .func (.func 147) #[.pointer (some ⟨b, 0, none⟩)] #[]
def uBro (b : Nat) : Value := .func (.func 145) #[.pointer (some ⟨b, 0, none⟩)] #[]
theorem uwrite_no (B b : Nat) (out : List UInt8) (L : ByteArray) (bad : Bool) (x : ByteArray) (next : Value) (w : World) (h : US B b out L bad w) (hn : 1600 < out.length + x.size) (hx : x.size ≤ 100000) (ho : out.length ≤ 1600) :
 Calls Tryz.prog 148 #[.pointer (some ⟨b, 0, none⟩), .string x, next] w fun e w' => e = .returned (uBro b) ∧ w = w' := by
 have hl := flen_any 161 B b (Lib.byteCells out) [.string L, .bool bad] w h
 rw [Lib.byteCells_length] at hl
 have HL := Lib.hid hl
 have hlt : (1600 : Int) < ((out.length : Nat) : Int) + ((x.size : Nat) : Int) := by omega
 clear h hl
 go_enter Tryz.func148, Tryz.ntmps148
 go_wp2_with (go_at_call 93; refine HL.out.mono ?_; rintro e w' ⟨rfl, rfl⟩)
 go_ret
 exact ⟨rfl, rfl⟩
theorem uwrite_yes (B b : Nat) (out : List UInt8) (L : ByteArray) (bad : Bool) (x : ByteArray) (next : Value) (w : World) (h : US B b out L bad w) (hn : out.length + x.size ≤ 1600) (hBw : B ≤ w.heap.size) :
 Calls Tryz.prog 148 #[.pointer (some ⟨b, 0, none⟩), .string x, next] w fun e w' => e = .returned next ∧ US B b (out ++ x.data.toList) L bad w' ∧ Keeps B b w w' := by
 have hl := flen_any 161 B b (Lib.byteCells out) [.string L, .bool bad] w h
 rw [Lib.byteCells_length] at hl
 have HL := Lib.hid hl
 have hws := fwriteString_any 161 B b (Lib.byteCells out) [.string L, .bool bad] x w unpT h (by rw [Lib.byteCells_length]; omega) (by omega) hBw
 have e : Lib.byteCells out ++ Lib.strCells x = Lib.byteCells (out ++ x.data.toList) := by simp [Lib.strCells, Lib.byteCells]
 rw [e] at hws
 have HW := Lib.hid hws
 have hlt : ¬ (1600 : Int) < ((out.length : Nat) : Int) + ((x.size : Nat) : Int) := by omega
 clear h hl hws e
 go_enter Tryz.func148, Tryz.ntmps148
 go_wp2_with (first | (go_at_call 93; refine HL.out.mono ?_; rintro e w' ⟨rfl, rfl⟩) | (go_at_call 75; refine HW.out.mono ?_; rintro e w1 ⟨rfl, hU, hK⟩))
 go_ret
 exact ⟨rfl, hU, hK⟩
theorem popN_succ : ∀ (k t : Nat), popN (k + 1) t = popN k t + t / 2 ^ k % 2
 | 0, t => by simp [popN]
 | k + 1, t => by
   rw [popN, popN_succ k (t / 2), popN, Nat.div_div_eq_div_mul, Nat.pow_succ, Nat.mul_comm (2 ^ k) 2]
   omega
theorem spreadN_succ : ∀ (k t : Nat) (bs : List UInt8), spreadN (k + 1) t bs = spreadN k t bs ++ [if t / 2 ^ k % 2 = 0 then 0 else (bs.drop (popN k t)).headD 0]
 | 0, t, bs => by
   rw [spreadN]
   simp only [spreadN, popN, List.drop_zero, Nat.pow_zero, Nat.div_one, List.nil_append]
   split <;> rfl
 | k + 1, t, bs => by
   have e : t / 2 ^ (k + 1) % 2 = t / 2 / 2 ^ k % 2 := by rw [Nat.div_div_eq_div_mul, Nat.pow_succ, Nat.mul_comm (2 ^ k) 2]
   have hL : spreadN (k + 1 + 1) t bs = if t % 2 = 0 then 0 :: spreadN (k + 1) (t / 2) bs else bs.headD 0 :: spreadN (k + 1) (t / 2) bs.tail := rfl
   have hR : spreadN (k + 1) t bs = if t % 2 = 0 then 0 :: spreadN k (t / 2) bs else bs.headD 0 :: spreadN k (t / 2) bs.tail := rfl
   rw [hL, hR, e, popN]
   by_cases h0 : t % 2 = 0
   · rw [if_pos h0, if_pos h0, spreadN_succ k (t / 2) bs, List.cons_append, h0, Nat.zero_add]
   · have h1 : t % 2 = 1 := by omega
     rw [if_neg h0, if_neg h0, spreadN_succ k (t / 2) bs.tail, List.cons_append, h1]
     have e2 : bs.tail.drop (popN k (t / 2)) = bs.drop (1 + popN k (t / 2)) := by rw [← List.drop_one, List.drop_drop]
     rw [e2]
theorem popN_mono (t : Nat) (k : Nat) : ∀ m, k ≤ m → popN k t ≤ popN m t := by
 intro m hm
 induction m with
 | zero => obtain rfl : k = 0 := by omega
           exact Nat.le_refl _
 | succ m ih =>
  by_cases hk : k = m + 1
  · rw [hk]; exact Nat.le_refl _
  · have := ih (by omega)
    rw [popN_succ]; omega
def spUp (k t : Nat) (bs : List UInt8) : List UInt8 := spreadN k t bs ++ List.replicate (8 - k) 0
theorem spUp_len (k t : Nat) (bs : List UInt8) (h : k ≤ 8) : (spUp k t bs).length = 8 := by simp [spUp, spreadN_length]; omega
theorem spUp_8 (t : Nat) (bs : List UInt8) : spUp 8 t bs = spreadN 8 t bs := by simp [spUp]
theorem spUp_step (k t : Nat) (bs : List UInt8) (h : k < 8) : spUp (k + 1) t bs = if t / 2 ^ k % 2 = 0 then spUp k t bs else (spUp k t bs).set k ((bs.drop (popN k t)).headD 0) := by
 have e : List.replicate (8 - k) (0 : UInt8) = 0 :: List.replicate (8 - (k + 1)) 0 := by
  rw [show 8 - k = (8 - (k + 1)) + 1 by omega]; rfl
 have hl := spreadN_length k t bs
 rw [spUp, spUp, spreadN_succ, e]
 split
 · simp
 · rw [List.set_append_right _ _ (by omega), hl, Nat.sub_self]
   simp
theorem and1_u8 (t k : Nat) (ht : t < 256) : bits .and .u8 ((t : Int) / 2 ^ k) 1 = ((t / 2 ^ k % 2 : Nat) : Int) := by
 have h := Nat.div_le_self t (2 ^ k)
 rw [div_cast, show (1 : Int) = ((1 : Nat) : Int) from rfl, u8_and_nat _ _ (by omega) (by omega), nat_mask1]
theorem spread_any (t : Nat) (s : ByteArray) (w : World) (ht : t < 256) (hs : s.size = popN 8 t) :
 Calls Tryz.prog 149 #[.int .u8 t, .string s] w fun e w' => e = .returned (.string ⟨(spreadN 8 t s.data.toList).toArray⟩) ∧ Below w.heap.size w w' := by
 have hsl : s.data.toList.length = s.size := rfl
 have HSL := Lib.hid hsl
 have hs8 : s.size ≤ 8 := by
  have h := fun k => Nat.mod_lt (t / 2 ^ k) (show 0 < 2 by decide)
  rw [hs, popN_succ, popN_succ, popN_succ, popN_succ, popN_succ, popN_succ, popN_succ, popN_succ, popN]
  have := h 0; have := h 1; have := h 2; have := h 3; have := h 4; have := h 5; have := h 6; have := h 7
  omega
 have HS := Lib.hid hs
 clear hs hsl
 go_enter Tryz.func149, Tryz.ntmps149
 go_wp2_with fail
 have h0 := heap_alloc_new w (.cells #[.int .u8 0, .int .u8 0, .int .u8 0, .int .u8 0, .int .u8 0, .int .u8 0, .int .u8 0, .int .u8 0] 87)
 go_loopw [1, 7] (fun o i wr => ∃ (k : Nat) (u : ByteArray), k ≤ 8 ∧ i = .int .i64 k ∧ o = .string u ∧ Hid (u.data.toList = s.data.toList.drop (popN k t)) ∧ Hid (wr.heap[w.heap.size]? = some (.cells (wd (spUp k t s.data.toList)) 87 (0, 0))) ∧ Hid (Below w.heap.size w wr)) (fun _ i _ => 8 - (intOf i).toNat)
 case atStart => exact ⟨0, s, by omega, rfl, rfl, by simp [Hid, popN], h0, (Below.refl _ _).alloc (Nat.le_refl _) _⟩
 case round =>
  obtain ⟨k, u, hk, rfl, rfl, HU, HR, HB⟩ := hrel
  clear h0
  have hstep := fun h => spUp_step k t s.data.toList h
  have hand := and1_u8 t k ht
  have hpm := popN_mono t (k + 1) 8
  have hps := popN_succ k t
  have hul := congrArg List.length HU.out
  rw [List.length_drop, HSL.out, HS.out] at hul
  have hul2 : u.data.toList.length = u.size := rfl
  by_cases hk1 : k < 8
  · have hfz := frozen_row HR.out k
    have hcl := wd_cell_row HR.out k (by rw [spUp_len _ _ _ hk]; exact hk1)
    have HP := Lib.hid (hstep hk1)
    have hpm2 := hpm (by omega)
    clear hstep hpm
    by_cases hb : t / 2 ^ k % 2 = 0
    · rw [hb] at hand
      have HN : Hid (spUp (k + 1) t s.data.toList = spUp k t s.data.toList) := Lib.hid (by rw [HP.out, if_pos hb])
      have HPop : Hid (popN (k + 1) t = popN k t) := Lib.hid (by rw [hps, hb]; rfl)
      have hand2 : bits .and .u8 ((t : Int) / 2 ^ k) 1 = 0 := hand
      clear hand hb hps hpm2 hul hul2 hcl hfz
      go_wp2
      go_roundw
      case rel => exact ⟨k + 1, u, by omega, by go_num, rfl, by rw [HPop.out]; exact HU, by rw [HN.out]; exact HR, HB⟩
      case measure => simp [intOf]; omega
    · have hb1 : t / 2 ^ k % 2 = 1 := by omega
      rw [hb1] at hand
      have hand2 : bits .and .u8 ((t : Int) / 2 ^ k) 1 = 1 := hand
      have hu0 : 0 < u.size := by omega
      have hg : ((s.data.toList.drop (popN k t)).headD 0) = u[0] := by
       rw [← HU.out, ← bytes_get u 0 hu0]
       cases u.data.toList <;> rfl
      have HN : Hid (spUp (k + 1) t s.data.toList = (spUp k t s.data.toList).set k u[0]) := Lib.hid (by rw [HP.out, if_neg (by omega), hg])
      have HPop : Hid (popN (k + 1) t = popN k t + 1) := Lib.hid (by rw [hps, hb1])
      have HU2 : Hid ((u.extract 1 u.size).data.toList = s.data.toList.drop (popN (k + 1) t)) := Lib.hid (by
       rw [Lib.extract_data, HPop.out, ← List.drop_drop, ← HU.out, List.take_of_length_le (by simp)])
      have HR2 : Hid ((wr.setCell ⟨w.heap.size, k, none⟩ (.int .u8 ((u[0]).toNat : Int))).heap[w.heap.size]? = some (.cells (wd ((spUp k t s.data.toList).set k u[0])) 87 (0, 0))) := Lib.hid (by rw [heap_set _ HR.out, wd_set])
      have HB2 := Lib.hid (HB.out.setCell (p := ⟨w.heap.size, k, none⟩) (Nat.le_refl _) (.int .u8 ((u[0]).toNat : Int)))
      have hu1 : 1 ≤ u.size := hu0
      clear hand hb hb1 hps hpm2 hul hul2 hg
      go_wp2
      go_roundw
      case rel => exact ⟨k + 1, _, by omega, by go_num, rfl, HU2, by rw [HN.out]; exact HR2, HB2⟩
      case measure => simp [intOf]; omega
  · obtain rfl : k = 8 := by omega
    have hR := HR.out
    have hl8 := spreadN_length 8 t s.data.toList
    rw [spUp_8] at hR
    have HR8 := Lib.hid hR
    have HL8 := Lib.hid hl8
    clear hstep hand hpm hps hul hul2 hR hl8
    obtain ⟨l, hle⟩ : ∃ l, spreadN 8 t s.data.toList = l := ⟨_, rfl⟩
    rw [hle] at HR8 HL8
    have HLE := Lib.hid hle
    clear hle
    go_wp2_with (refine wpList_load_wd rfl 87 (.tmp 5) rfl w.heap.size rfl 87 l _ HR8.out Tryz.underlying87 rfl (by rw [HL8.out]; exact size46) ?_)
    refine (text_any l _ HL8.out).mono ?_
    rintro e w2 ⟨rfl, hb2⟩
    have HB2 := Lib.hid (HB.out.trans (hb2.mono HB.out.size))
    go_wp2
    go_ret
    exact ⟨by rw [HLE.out]; rfl, HB2.out⟩
end Go.Proofs.YtlbfffokkhccaaaGreatDoor
