/- Plain facts: a bit that was put is got, and put back; a byte is its eight bits. No Go text. -/
import Derived.Test.YtliiffpegfkpbaaMath3
import Derived.Test.YtliiffpegfkpbaaMathGet
namespace Go.Proofs.Ytliiffpegfkpbaa
open Go.RowKit
def nb (b r bit : Nat) : Nat := (b &&& (255 - 2 ^ r)) ||| (bit * 2 ^ r)
theorem nb_all : ∀ b : Fin 256, ∀ r : Fin 8, ∀ bit : Fin 2, nb b.val r.val bit.val / 2 ^ r.val % 2 = bit.val ∧ nb (nb b.val r.val bit.val) r.val (b.val / 2 ^ r.val % 2) = b.val := by decide +kernel
theorem newB_nb (b : UInt8) (r bit : Nat) (hr : r < 8) (hb : bit ≤ 1) : (newB b r bit).toNat = nb b.toNat r bit := newB_toNat b r bit hr hb
theorem newB_got (b : UInt8) (r bit : Nat) (hr : r < 8) (hb : bit ≤ 1) : (newB b r bit).toNat / 2 ^ r % 2 = bit := by
  rw [newB_nb b r bit hr hb]
  exact (nb_all ⟨b.toNat, b.toNat_lt⟩ ⟨r, hr⟩ ⟨bit, by omega⟩).1
theorem newB_back (b : UInt8) (r bit : Nat) (hr : r < 8) (hb : bit ≤ 1) : newB (newB b r bit) r (b.toNat / 2 ^ r % 2) = b := by
  apply UInt8.toNat_inj.1
  rw [newB_nb _ r _ hr (by omega), newB_nb b r bit hr hb]
  exact (nb_all ⟨b.toNat, b.toNat_lt⟩ ⟨r, hr⟩ ⟨bit, by omega⟩).2
theorem setBit_at (l : List UInt8) (i bit : Nat) (h : i / 8 < l.length) : (setBit l i bit)[i / 8]?.getD 0 = newB (l[i / 8]?.getD 0) (i % 8) bit := by
  rw [setBit, List.getElem?_set_self (by omega)]
  rfl
theorem setBit_length (l : List UInt8) (i bit : Nat) : (setBit l i bit).length = l.length := by simp [setBit]
theorem setBit_back (l : List UInt8) (i bit : Nat) (h : i / 8 < l.length) (hb : bit ≤ 1) : setBit (setBit l i bit) i ((l[i / 8]?.getD 0).toNat / 2 ^ (i % 8) % 2) = l := by
  rw [setBit, setBit_at l i bit h, newB_back _ _ _ (by omega) hb, setBit, List.set_set, List.getElem?_eq_getElem h]
  simp
end Go.Proofs.Ytliiffpegfkpbaa
