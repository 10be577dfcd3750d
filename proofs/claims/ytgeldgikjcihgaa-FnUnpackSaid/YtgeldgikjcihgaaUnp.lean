/- impl's unpacker: its methods. -/
import Derived.Test.YtgeldgikjcihgaaBldF
import Derived.Test.YtgeldgikjcihgaaMath2
import Derived.Test.YtgeldgikjcihgaaMathPack
namespace Go.Proofs.Ytgeldgikjcihgaa
open Go.RowKit
/-- an unpacker in block b: it has written these bytes, those are left. -/
def US (B b : Nat) (out : List UInt8) (L : ByteArray) (bad : Bool) (w : World) : Prop := BF 64 B b (Lib.byteCells out) [.string L, .bool bad] w
theorem unpT : LiesB 64 2 := ⟨by decide, by kernel_rfl⟩
theorem US.left {B b : Nat} {out : List UInt8} {L : ByteArray} {bad : Bool} {w : World} (h : US B b out L bad w) : w.cell? ⟨b, 2, none⟩ = some (.string L) := by
  have := BF.cell h 0; simpa using this
theorem US.bad {B b : Nat} {out : List UInt8} {L : ByteArray} {bad : Bool} {w : World} (h : US B b out L bad w) : w.cell? ⟨b, 3, none⟩ = some (.bool bad) := by
  have := BF.cell h 1; simpa using this
theorem US.setLeft {B b : Nat} {out : List UInt8} {L : ByteArray} {bad : Bool} {w : World} (h : US B b out L bad w) (L' : ByteArray) : US B b out L' bad (w.setCell ⟨b, 2, none⟩ (.string L')) := by
  have := BF.set unpT.1 h 0 (.string L'); simpa [US] using this
theorem US.setBad {B b : Nat} {out : List UInt8} {L : ByteArray} {bad : Bool} {w : World} (h : US B b out L bad w) (c : Bool) : US B b out L c (w.setCell ⟨b, 3, none⟩ (.bool c)) := by
  have := BF.set unpT.1 h 1 (.bool c); simpa [US] using this
theorem US.below {B b : Nat} {out : List UInt8} {L : ByteArray} {bad : Bool} {w w' : World} (h : US B b out L bad w) (hb : Below w.heap.size w w') : US B b out L bad w' := BF.below h hb
set_option maxHeartbeats 400000 in
theorem ubroken_any (B b : Nat) (out : List UInt8) (L : ByteArray) (bad : Bool) (w : World) (h : US B b out L bad w) :
    Calls Try.prog 69 #[.pointer (some ⟨b, 0, none⟩)] w fun e w' => e = .returned .nilFunc ∧ US B b out L true w' ∧ Keeps B b w w' := by
  have h1 := BF.frozen h 3
  have h3 := h.bad
  have H2 := Lib.hid (h.setBad true)
  clear h
  go_enter Try.func69, Try.ntmps69
  go_wp2
  go_ret
  exact ⟨rfl, H2.out, set_keeps B b w 3 _⟩
set_option maxHeartbeats 400000 in
theorem utake_no (B b : Nat) (out : List UInt8) (L : ByteArray) (bad : Bool) (n : Nat) (w : World) (h : US B b out L bad w) (hn : L.size < n) :
    Calls Try.prog 67 #[.pointer (some ⟨b, 0, none⟩), .int .i64 n] w fun e w' => e = .returned (.tuple #[.string ⟨#[]⟩, .bool false]) ∧ w = w' := by
  have h1 := h.left
  have hlt : ((L.size : Nat) : Int) < (n : Int) := by omega
  clear h
  go_enter Try.func67, Try.ntmps67
  go_wp2
  go_ret2
  exact ⟨rfl, rfl⟩
set_option maxHeartbeats 400000 in
theorem utake_yes (B b : Nat) (out : List UInt8) (L : ByteArray) (bad : Bool) (n : Nat) (w : World) (h : US B b out L bad w) (hn : n ≤ L.size) :
    Calls Try.prog 67 #[.pointer (some ⟨b, 0, none⟩), .int .i64 n] w fun e w' => e = .returned (.tuple #[.string (L.extract 0 n), .bool true]) ∧ US B b out (L.extract n L.size) bad w' ∧ Keeps B b w w' := by
  have h1 := h.left
  have h2 := BF.frozen h 2
  have hlt : ¬ ((L.size : Nat) : Int) < (n : Int) := by omega
  have H2 := Lib.hid (h.setLeft (L.extract n L.size))
  clear h
  go_enter Try.func67, Try.ntmps67
  go_wp2
  go_ret2
  exact ⟨rfl, H2.out, set_keeps B b w 2 _⟩
/-- the states. -/
def uTag (b : Nat) : Value := .func (.func 43) #[.pointer (some ⟨b, 0, none⟩)] #[]
def uNou (b : Nat) : Value := .func (.func 70) #[.pointer (some ⟨b, 0, none⟩)] #[]
def uPla (b : Nat) : Value := .func (.func 71) #[.pointer (some ⟨b, 0, none⟩)] #[]
def uBro (b : Nat) : Value := .func (.func 69) #[.pointer (some ⟨b, 0, none⟩)] #[]
set_option maxHeartbeats 400000 in
theorem uwrite_no (B b : Nat) (out : List UInt8) (L : ByteArray) (bad : Bool) (x : ByteArray) (next : Value) (w : World) (h : US B b out L bad w) (hn : 1600 < out.length + x.size) (hx : x.size ≤ 100000) (ho : out.length ≤ 1600) :
    Calls Try.prog 72 #[.pointer (some ⟨b, 0, none⟩), .string x, next] w fun e w' => e = .returned (uBro b) ∧ w = w' := by
  have hl := flen_any 64 B b (Lib.byteCells out) [.string L, .bool bad] w h
  rw [Lib.byteCells_length] at hl
  have HL := Lib.hid hl
  have hlt : (1600 : Int) < ((out.length : Nat) : Int) + ((x.size : Nat) : Int) := by omega
  clear h hl
  go_enter Try.func72, Try.ntmps72
  go_wp2_with (go_at_call 96; refine HL.out.mono ?_; rintro e w' ⟨rfl, rfl⟩)
  go_ret
  exact ⟨rfl, rfl⟩
set_option maxHeartbeats 400000 in
theorem uwrite_yes (B b : Nat) (out : List UInt8) (L : ByteArray) (bad : Bool) (x : ByteArray) (next : Value) (w : World) (h : US B b out L bad w) (hn : out.length + x.size ≤ 1600) (hBw : B ≤ w.heap.size) :
    Calls Try.prog 72 #[.pointer (some ⟨b, 0, none⟩), .string x, next] w fun e w' => e = .returned next ∧ US B b (out ++ x.data.toList) L bad w' ∧ Keeps B b w w' := by
  have hl := flen_any 64 B b (Lib.byteCells out) [.string L, .bool bad] w h
  rw [Lib.byteCells_length] at hl
  have HL := Lib.hid hl
  have hws := fwriteString_any 64 B b (Lib.byteCells out) [.string L, .bool bad] x w unpT h (by rw [Lib.byteCells_length]; omega) (by omega) hBw
  have e : Lib.byteCells out ++ Lib.strCells x = Lib.byteCells (out ++ x.data.toList) := by simp [Lib.strCells, Lib.byteCells]
  rw [e] at hws
  have HW := Lib.hid hws
  have hlt : ¬ (1600 : Int) < ((out.length : Nat) : Int) + ((x.size : Nat) : Int) := by omega
  clear h hl hws e
  go_enter Try.func72, Try.ntmps72
  go_wp2_with (first | (go_at_call 96; refine HL.out.mono ?_; rintro e w' ⟨rfl, rfl⟩) | (go_at_call 93; refine HW.out.mono ?_; rintro e w1 ⟨rfl, hU, hK⟩))
  go_ret
  exact ⟨rfl, hU, hK⟩
end Go.Proofs.Ytgeldgikjcihgaa
