/- Plain facts: a string laid out as bytes in a block of its own; a bit set in a byte. No Go text. -/
import Derived.Test.YtliiffpegfkpbabDoorMath2
import Derived.Lib.ConvBytes
namespace Go.Proofs.YtliiffpegfkpbabDoor
open Go.RowKit

/-- a block that a conversion of a string has laid: it is not frozen up to its end. -/
def SRow (w : World) (g : Nat) (e : TypeId) (cs : Array Value) : Prop := w.heap[g]? = some (.cells cs e (cs.size, cs.size + 1))
theorem SRow.cell {w : World} {g : Nat} {e : TypeId} {cs : Array Value} (h : SRow w g e cs) (i : Nat) : w.cell? ⟨g, i, none⟩ = cs[i]? := cell_of_row w g i cs e _ h
theorem SRow.frozen {w : World} {g : Nat} {e : TypeId} {cs : Array Value} (h : SRow w g e cs) (i : Nat) (hi : i < cs.size) : w.frozen? ⟨g, i, none⟩ = false := by
  unfold SRow at h
  simp [World.frozen?, h]
  omega
theorem SRow.set {w : World} {g : Nat} {e : TypeId} {cs : Array Value} (h : SRow w g e cs) (i : Nat) (u : Value) : SRow (w.setCell ⟨g, i, none⟩ u) g e (cs.setIfInBounds i u) := by
  unfold SRow at h ⊢
  simp [World.setCell, Array.getElem?_modify, h]
theorem SRow.drew {w : World} {g : Nat} {e : TypeId} {cs : Array Value} (h : SRow w g e cs) : SRow w.drew g e cs := h
theorem SRow.below {B : Nat} {w w' : World} {g : Nat} {e : TypeId} {cs : Array Value} (h : SRow w g e cs) (hb : Below B w w') (hg : g < B) : SRow w' g e cs := (hb.block g hg).trans h

theorem bytesCells_take (w : World) (e : TypeId) (s : ByteArray) : (Lib.bytesCells w e s).toList.take s.size = Lib.byteCells s.data.toList := by
  have hs : s.data.size = s.size := rfl
  rw [Lib.bytesCells, Array.toList_append, List.take_append_of_le_length (by simp [hs]), List.take_of_length_le (by simp [hs])]
  simp [Lib.byteCells]
theorem below_bytesWorld (w : World) (e : TypeId) (s : ByteArray) : Below w.heap.size w (Lib.bytesWorld w e s) :=
  ⟨rfl, rfl, rfl, by rw [Lib.bytesWorld_size]; omega, fun k hk => Lib.bytesWorld_at_old w e s k hk⟩

theorem take_set (l : List Value) (n i : Nat) (v : Value) (h : i < n) : (l.set i v).take n = (l.take n).set i v := by
  apply List.ext_getElem?
  intro j
  by_cases hj : j < n
  · rw [List.getElem?_take_of_lt hj, List.getElem?_set, List.getElem?_set, List.getElem?_take_of_lt hj, List.length_take]
    by_cases hij : i = j
    · subst hij
      by_cases hl : i < l.length
      · simp [hl, show i < min n l.length by omega]
      · simp [hl, show ¬ i < min n l.length by omega]
    · simp [hij]
  · rw [List.getElem?_eq_none (by simp; omega), List.getElem?_eq_none (by simp; omega)]
theorem byteCells_set (l : List UInt8) (i : Nat) (b : UInt8) : (Lib.byteCells l).set i (.int .u8 (b.toNat : Int)) = Lib.byteCells (l.set i b) := by simp [Lib.byteCells, List.map_set]

theorem srow_size {w : World} {g i : Nat} {e : TypeId} {cs : Array Value} {s : ByteArray} (_h : SRow w g e cs) (ht : cs.toList.take s.size = Lib.byteCells s.data.toList) (hi : i < s.size) : i < cs.size := by
  have h := congrArg List.length ht
  rw [List.length_take, Lib.byteCells_length] at h
  simp at h
  omega
theorem srow_cell {w : World} {g i : Nat} {e : TypeId} {cs : Array Value} {s : ByteArray} (h : SRow w g e cs) (ht : cs.toList.take s.size = Lib.byteCells s.data.toList) (hi : i < s.size) : w.cell? ⟨g, i, none⟩ = some (.int .u8 ((s.data.toList[i]?.getD 0).toNat : Int)) := by
  rw [h.cell]
  have h := congrArg (fun x : List Value => x[i]?) ht
  simp only [List.getElem?_take_of_lt hi, Array.getElem?_toList] at h
  rw [h]
  simp [Lib.byteCells, hi]
/-- []byte(s), s a string: its bytes lie in a new block. -/
theorem wpList_convert_bytes {P : Program} {w : World} {ops : Array Oper} {rest : List Oper} {o : Oper} {a : Act} {Q : Exit → Act → World → Prop} (hgd : o.guard = none) (src dst e : TypeId) (x : Operand) (ho : o.op = .convert src dst x) (s : ByteArray)
    (hx : a.eval x = .string s) {u : TypeDesc} (hs : P.underlying src = some u) (hd : P.underlying dst = some (.slice e)) (he : P.underlying e = some (.int .u8))
    (h : ∀ c w' cs, Hid (SRow w' w.heap.size e cs) → Hid (cs.toList.take s.size = Lib.byteCells s.data.toList) → Hid (Below w.heap.size w w') → Hid (w'.heap.size = w.heap.size + 1) → wpList P ops Q rest (a.put o.dst (.slice (some ⟨w.heap.size, 0, none⟩) s.size c)) w') :
    wpList P ops Q (o :: rest) a w := by
  refine wpList_plain hgd fun _ hK => ?_
  have hr := Lib.run_convert_string_bytes (P := P) w src dst e s hs hd he
  unfold Oper.wp execOp
  simp only [ho, hx, Sem.run_bind, hr, Result.andThen_ok, Sem.run_pure]
  exact hK _ _ (h _ _ _ (Lib.bytesWorld_at_new w e s) (bytesCells_take w e s) (below_bytesWorld w e s) (Lib.bytesWorld_size w e s))

/-- a byte with a bit that is 0 or 1. -/
def newB (b : UInt8) (r bit : Nat) : UInt8 := UInt8.ofNat ((b.toNat &&& (255 - 2 ^ r)) ||| (bit * 2 ^ r))
/-- bytes with a bit that is 0 or 1. -/
def setBit (l : List UInt8) (i bit : Nat) : List UInt8 := l.set (i / 8) (newB (l[i / 8]?.getD 0) (i % 8) bit)
theorem sub_lt256 (r : Nat) : 255 - 2 ^ r < 256 := Nat.lt_of_le_of_lt (Nat.sub_le _ _) (by decide)
theorem pow_lt256 (r : Nat) (hr : r < 8) : 2 ^ r ≤ 128 := Nat.pow_le_pow_right (by decide) (show r ≤ 7 by omega)
theorem newB_toNat (b : UInt8) (r bit : Nat) (hr : r < 8) (hb : bit ≤ 1) : (newB b r bit).toNat = ((b.toNat &&& (255 - 2 ^ r)) ||| (bit * 2 ^ r)) := by
  have h := pow_lt256 r hr
  have h1 : b.toNat &&& (255 - 2 ^ r) < 2 ^ 8 := Nat.and_lt_two_pow _ (sub_lt256 r)
  have h2 : bit * 2 ^ r < 2 ^ 8 := by
    have : bit = 0 ∨ bit = 1 := by omega
    rcases this with rfl | rfl
    · simp
    · rw [Nat.one_mul]; exact Nat.lt_of_le_of_lt h (by decide)
  have h3 := Nat.or_lt_two_pow h1 h2
  rw [newB, UInt8.toNat_ofNat', Nat.mod_eq_of_lt h3]
theorem pow_mod (r : Nat) (hr : r < 8) : (2 : Int) ^ r % 256 = ((2 ^ r : Nat) : Int) := by
  have h := pow_lt256 r hr
  rw [show (2 : Int) ^ r = ((2 ^ r : Nat) : Int) by rw [Int.natCast_pow]; rfl]
  generalize 2 ^ r = m at h ⊢
  omega
theorem newB_0 (b : UInt8) (r : Nat) (hr : r < 8) : bits .or .u8 (bits .andNot .u8 (b.toNat : Int) ((2 : Int) ^ r % 256)) 0 = ((newB b r 0).toNat : Int) := by
  have h := pow_lt256 r hr
  have h1 : b.toNat &&& (255 - 2 ^ r) < 2 ^ 8 := Nat.and_lt_two_pow _ (sub_lt256 r)
  rw [pow_mod r hr, u8_andNot_nat _ _ b.toNat_lt (Nat.lt_of_le_of_lt h (by decide)), show (0 : Int) = ((0 : Nat) : Int) from rfl, u8_or_nat _ _ h1 (by decide), newB_toNat b r 0 hr (by omega)]
  simp
theorem newB_1 (b : UInt8) (r : Nat) (hr : r < 8) : bits .or .u8 (bits .andNot .u8 (b.toNat : Int) ((2 : Int) ^ r % 256)) ((2 : Int) ^ r % 256) = ((newB b r 1).toNat : Int) := by
  have h := pow_lt256 r hr
  have h1 : b.toNat &&& (255 - 2 ^ r) < 2 ^ 8 := Nat.and_lt_two_pow _ (sub_lt256 r)
  rw [pow_mod r hr, u8_andNot_nat _ _ b.toNat_lt (Nat.lt_of_le_of_lt h (by decide)), u8_or_nat _ _ h1 (Nat.lt_of_le_of_lt h (by decide)), newB_toNat b r 1 hr (by omega)]
  simp
theorem wrap_pow (r : Nat) (hr : r < 8) : wrap64 ((2 : Int) ^ r) = (2 : Int) ^ r := by
  have h := pow_lt256 r hr
  rw [show (2 : Int) ^ r = ((2 ^ r : Nat) : Int) by rw [Int.natCast_pow]; rfl]
  generalize 2 ^ r = m at h ⊢
  exact wrap64_small m (by omega)
end Go.Proofs.YtliiffpegfkpbabDoor
