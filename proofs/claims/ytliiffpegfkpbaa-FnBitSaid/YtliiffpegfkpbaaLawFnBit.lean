/- The walk of the law FnBit: true at every code. -/
import Derived.Test.YtliiffpegfkpbaaBitPut
import Derived.Test.YtliiffpegfkpbaaMathBit
import Derived.Test.YtliiffpegfkpbaaGet
import Derived.Test.YtliiffpegfkpbaaDraw3
namespace Go.Proofs.Ytliiffpegfkpbaa
open Go.RowKit
theorem bputB_parts {l : List UInt8} {a b : Int} (h : bputB l a b = true) : (l.length % 8 = 0 ∧ l.length ≤ 1600) ∧ wordsB l.length = true ∧ 0 ≤ a ∧ a < 8 * l.length ∧ (b = 0 ∨ b = 1) := by
  simp only [bputB, bputOk, Bool.and_eq_true, decide_eq_true_eq] at h
  obtain ⟨hw, ⟨h0, h1⟩, hb⟩ := h
  exact ⟨by simpa [wordsB] using hw, hw, h0, h1, hb⟩
theorem bputT_eq {l : List UInt8} {a b : Int} (h : bputB l a b = true) : bputT l a b = setBit l a.toNat b.toNat := by
  simp only [bputB, Bool.and_eq_true] at h
  rw [bputT, if_pos h.1, if_pos h.2]
theorem bputT_bd (l : List UInt8) (a b : Int) (n : Nat) (h : l.length ≤ n) : (bputT l a b).length ≤ n := by
  rw [bputT]
  split
  · split
    · rw [setBit_length]; exact h
    · exact h
  · simp
theorem bitI_in {l : List UInt8} {a : Int} (hw : wordsB l.length = true) (h0 : 0 ≤ a) (h1 : a < 8 * l.length) : bitI l a = (bitN l a.toNat : Nat) := by
  rw [bitI, bitB, hw, if_pos (by simp; omega)]
/-- behind a bit that was put. -/
theorem bit_law {l : List UInt8} {a b : Int} (h : bputB l a b = true) :
    (bputT l a b).length = l.length ∧ bitI (bputT l a b) a = b ∧ bputB (bputT l a b) a (bitI l a) = true ∧ bputT (bputT l a b) a (bitI l a) = l := by
  obtain ⟨hw8, hw, h0, h1, hb⟩ := bputB_parts h
  have hT := bputT_eq h
  have hl : (bputT l a b).length = l.length := by rw [hT, setBit_length]
  have hi : a.toNat / 8 < l.length := by omega
  have hb1 : b.toNat ≤ 1 := by omega
  have hN : bitN l a.toNat ≤ 1 := by rw [bitN]; omega
  have hB : bputB (bputT l a b) a (bitI l a) = true := by
    rw [bitI_in hw h0 h1]
    simp only [bputB, bputOk, hl, hw, Bool.true_and, Bool.and_eq_true, decide_eq_true_eq]
    exact ⟨⟨h0, h1⟩, by omega⟩
  refine ⟨hl, ?_, hB, ?_⟩
  · rw [bitI_in (by rw [hl]; exact hw) h0 (by rw [hl]; exact h1), hT, bitN, setBit_at l _ _ hi, newB_got _ _ _ (by omega) hb1]
    omega
  · rw [bputT_eq hB, hT, bitI_in hw h0 h1, Int.toNat_natCast, bitN]
    exact setBit_back l _ _ hi hb1
/-- a byte is its eight bits. -/
theorem byte_step (l : List UInt8) (q j : Nat) (hw : wordsB l.length = true) (hq : q < l.length) (hj : j < 8) :
    2 * (((l[q]?.getD 0).toNat / 2 ^ (j + 1) : Nat) : Int) + bitI l ((q : Int) * 8 + j) = (((l[q]?.getD 0).toNat / 2 ^ j : Nat) : Int) ∧ 0 ≤ bitI l ((q : Int) * 8 + j) ∧ bitI l ((q : Int) * 8 + j) ≤ 1 := by
  have e1 : ((q : Int) * 8 + j).toNat = q * 8 + j := by omega
  rw [bitI_in hw (by omega) (by omega), e1, bitN, show (q * 8 + j) / 8 = q by omega, show (q * 8 + j) % 8 = j by omega, Nat.pow_succ, ← Nat.div_div_eq_div_mul]
  omega
theorem byte_get (l : List UInt8) (q : Nat) (hw : wordsB l.length = true) (hq : q < l.length) : getI l (q : Int) 1 = ((l[q]?.getD 0).toNat : Int) := by
  have hw8 : l.length % 8 = 0 ∧ l.length ≤ 1600 := by simpa [wordsB] using hw
  have hp : placeB (q : Int) 1 = true := by simp [placeB]; omega
  have hb := byte_lt l q
  rw [getI, if_pos ⟨hw, hp⟩]
  have e : leN l ((q : Int)).toNat (1 : Int).toNat = (l[q]?.getD 0).toNat := by
    show leN l q 1 = _
    simp [leN]
  rw [e, wrap64_small _ (by omega)]
def top (c j : Nat) : Int := ((c / 2 ^ j : Nat) : Int)
theorem top_bd (c j : Nat) (h : c < 256) : 0 ≤ top c j ∧ top c j ≤ 255 := by
  have := Nat.div_le_self c (2 ^ j)
  unfold top
  generalize c / 2 ^ j = q at this ⊢
  omega
set_option maxHeartbeats 4000000 in
theorem walkFnBit (w : World) (a : Option Addr) (len cap : Nat) (h : Arg w a len cap) :
    Calls Try.prog 5 #[.slice a len cap] w fun e w' => e = .returned (.bool true) ∧ Below w.heap.size w w' := by
  have hlen := h.1.1
  unfold maxLen at hlen
  by_cases hbig : 1048576 < len
  · go_enter Try.func5, Try.ntmps5
    go_wp2
    go_ret
    exact ⟨rfl, Below.refl _ _⟩
  go_enter Try.func5, Try.ntmps5
  go_wp2_with fail
  refine (drawBitPut_any a len cap _ h).mono ?_
  rintro e w1 ⟨s, y, b, hs, ⟨hy0, hy1⟩, ⟨hz0, hz1⟩, rfl, hb1⟩
  have hsm : s.size ≤ maxLen := by unfold maxLen; omega
  go_wp2_with fail
  refine (implBitPut_any s y b _ hsm).mono ?_
  rintro e w2 ⟨rfl, hb2⟩
  go_wp2_with fail
  refine (specBitPut_any s y b _ hsm).mono ?_
  rintro e w3 ⟨rfl, hb3⟩
  have hb13 : Below w.heap.size w w3 := hb1.trans ((hb2.trans (hb3.mono hb2.size)).mono hb1.size)
  have hX1 := bputT_bd s.data.toList y b 1700 (by rw [ba_size]; exact hs)
  cases hB : bputB s.data.toList y b
  · generalize (⟨(bputT s.data.toList y b).toArray⟩ : ByteArray) = X
    clear hX1
    go_wp2_with (first | (go_at_call 20; go_must (refine (implBitGet_any s _ _ hsm).mono ?_); rintro e w4 ⟨rfl, hb4⟩; replace hb13 := hb13.trans (hb4.mono hb13.size)) | (go_at_call 21; go_must (refine (specBitGet_any s _ _ hsm).mono ?_); rintro e w' ⟨rfl, rfl⟩))
    go_ret
    exact ⟨rfl, hb13⟩
  · obtain ⟨hL, hG, hBB, hT⟩ := bit_law hB
    obtain ⟨hw8, hw, hy, hin, hbb⟩ := bputB_parts hB
    rw [ba_size] at hL hin hw
    have hXl : (⟨(bputT s.data.toList y b).toArray⟩ : ByteArray).data.toList = bputT s.data.toList y b := rfl
    have hXs : (⟨(bputT s.data.toList y b).toArray⟩ : ByteArray).size = s.size := by rw [mk_size, hL]
    generalize (⟨(bputT s.data.toList y b).toArray⟩ : ByteArray) = X at hXl hXs ⊢
    rw [← hXl] at hT hBB hG
    have hXm : X.size ≤ maxLen := by unfold maxLen; omega
    obtain ⟨p, rfl⟩ := Int.eq_ofNat_of_zero_le hy
    have hq : p / 8 < X.size := by omega
    have hwX : wordsB X.data.toList.length = true := by rw [ba_size, hXs]; exact hw
    have hstep : ∀ j : Nat, j < 8 → 2 * top (X.data.toList[p / 8]?.getD 0).toNat (j + 1) + bitI X.data.toList ((p : Int) / 8 * 8 + j) = top (X.data.toList[p / 8]?.getD 0).toNat j ∧ 0 ≤ bitI X.data.toList ((p : Int) / 8 * 8 + j) ∧ bitI X.data.toList ((p : Int) / 8 * 8 + j) ≤ 1 := fun j hj => by
      have := byte_step X.data.toList (p / 8) j hwX (by rw [ba_size]; exact hq) hj
      rwa [show ((p / 8 : Nat) : Int) = (p : Int) / 8 by omega] at this
    have hbyte := byte_get X.data.toList (p / 8) hwX (by rw [ba_size]; exact hq)
    rw [show ((p / 8 : Nat) : Int) = (p : Int) / 8 by omega] at hbyte
    have hlt := byte_lt X.data.toList (p / 8)
    generalize (X.data.toList[p / 8]?.getD 0).toNat = c at hstep hbyte hlt
    have HT := Lib.hid hT
    have HBB := Lib.hid hBB
    have HG := Lib.hid hG
    have HST := Lib.hid hstep
    have HBY := Lib.hid hbyte
    have hps : p ≤ 16000 := by omega
    clear hT hBB hG hstep hbyte hXl hXs hL hw hw8 hB hwX hX1 hbb hq
    go_wp2_with (first | (go_at_call 20; go_must (refine (implBitGet_any s _ _ hsm).mono ?_); rintro e w4 ⟨rfl, hb4⟩; replace hb13 := hb13.trans (hb4.mono hb13.size)) | (go_at_call 21; go_must (refine (specBitGet_any s _ _ hsm).mono ?_); rintro e w' ⟨rfl, rfl⟩))
    go_loopw [10, 11] (fun n i wr => ∃ j : Nat, j ≤ 8 ∧ i = .int .i64 ((j : Int) - 1) ∧ n = .int .i64 (top c j) ∧ Hid (Below w.heap.size w wr)) (fun _ i _ => (intOf i + 1).toNat)
    case atStart => exact ⟨8, by omega, rfl, by rw [top, Nat.div_eq_of_lt (by omega)]; rfl, hb13⟩
    case round =>
      obtain ⟨j, hj, rfl, rfl, HB13⟩ := hrel
      clear hb13
      have hb13 := HB13.out
      obtain ⟨hc0, hc1⟩ := top_bd c j hlt
      by_cases h0 : j = 0
      · subst h0
        have ht0 : top c 0 = (c : Int) := by simp [top]
        go_wp2_with (first | (go_at_call 20; go_must (refine (implBitGet_any s _ _ hsm).mono ?_); rintro e w5 ⟨rfl, hb5⟩; replace hb13 := hb13.trans (hb5.mono hb13.size)))
        have hgb : 0 ≤ bitI s.data.toList (p : Int) ∧ bitI s.data.toList (p : Int) ≤ 1 := by
          rw [bitI]; split
          · rw [bitN]; omega
          · omega
        refine (implBitPut_any X p _ _ hXm).mono ?_
        rintro e w6 ⟨rfl, hb6⟩
        replace hb13 := hb13.trans (hb6.mono hb13.size)
        rw [HT.out, HBB.out, ba_eta']
        have hg := HG.out
        have hby := HBY.out
        go_wp2_with (first | (go_at_call 20; go_must (refine (implBitGet_any X _ _ hXm).mono ?_); rintro e w7 ⟨rfl, hb7⟩; replace hb13 := hb13.trans (hb7.mono hb13.size)) | (go_at_call 14; go_must (refine (implGet_any X _ _ _ hXm).mono ?_); rintro e w8 ⟨rfl, hb8⟩; replace hb13 := hb13.trans (hb8.mono hb13.size)))
        go_ret
        exact ⟨rfl, hb13⟩
      · obtain ⟨i, rfl⟩ : ∃ i, j = i + 1 := ⟨j - 1, by omega⟩
        obtain ⟨hs1, hs2, hs3⟩ := HST.out i (by omega)
        rw [show (((i + 1 : Nat) : Int) - 1) = (i : Int) by omega]
        go_wp2_with (first | (go_at_call 20; go_must (refine (implBitGet_any X _ _ hXm).mono ?_); rintro e w5 ⟨rfl, hb5⟩; replace hb13 := hb13.trans (hb5.mono hb13.size)))
        go_roundw
        case rel => exact ⟨i, by omega, rfl, rfl, hb13⟩
        case measure => simp [intOf]
end Go.Proofs.Ytliiffpegfkpbaa
