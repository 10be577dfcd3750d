/- impl.Hex and spec.Hex answer the same of a text of at most 2^20 bytes. -/
import Derived.Test.YtialmfolgendlaaBuilderW
import Derived.Test.YtialmfolgendlaaBString
import Derived.Test.YtialmfolgendlaaMath3
import Derived.StillTailTactics
namespace Go.Proofs.Ytialmfolgendlaa
open Go.RowKit

/-- a figure. -/
def fig (n : Nat) : UInt8 := if n < 10 then UInt8.ofNat (48 + n) else UInt8.ofNat (87 + n)
/-- two figures for each byte. -/
def hexL (l : List UInt8) : List UInt8 := l.flatMap fun b => [fig (b.toNat / 16), fig (b.toNat % 16)]
theorem hexL_take (l : List UInt8) (k : Nat) (h : k < l.length) : hexL (l.take (k + 1)) = hexL (l.take k) ++ [fig ((l[k]).toNat / 16), fig ((l[k]).toNat % 16)] := by
  rw [List.take_succ_eq_append_getElem h, hexL, hexL, List.flatMap_append]
  simp
theorem hexL_length (l : List UInt8) : (hexL l).length = 2 * l.length := by
  induction l with
  | nil => rfl
  | cons b r ih => simp only [hexL, List.flatMap_cons, List.length_append, List.length_cons, List.length_nil] at ih ⊢; omega

theorem figs_at : ∀ i : Fin 16, (({ data := #[48, 49, 50, 51, 52, 53, 54, 55, 56, 57, 97, 98, 99, 100, 101, 102] } : ByteArray)[i.val]'i.isLt) = fig i.val := by decide
theorem two_figs (bs : List UInt8) (m n : Nat) (h : m < 16 ∧ n < 16) :
    Lib.byteCells bs ++ [.int .u8 (({ data := #[48, 49, 50, 51, 52, 53, 54, 55, 56, 57, 97, 98, 99, 100, 101, 102] } : ByteArray)[m]'h.1).toNat] ++ [.int .u8 (({ data := #[48, 49, 50, 51, 52, 53, 54, 55, 56, 57, 97, 98, 99, 100, 101, 102] } : ByteArray)[n]'h.2).toNat] = Lib.byteCells (bs ++ [fig m, fig n]) := by
  rw [figs_at ⟨m, h.1⟩, figs_at ⟨n, h.2⟩]
  simp [Lib.byteCells]

theorem two_figs' (bs : List UInt8) (m n : Nat) (h : m < 16 ∧ n < 16) :
    Lib.byteCells bs ++ [.int .u8 (({ data := #[48, 49, 50, 51, 52, 53, 54, 55, 56, 57, 97, 98, 99, 100, 101, 102] } : ByteArray)[m]'h.1).toNat, .int .u8 (({ data := #[48, 49, 50, 51, 52, 53, 54, 55, 56, 57, 97, 98, 99, 100, 101, 102] } : ByteArray)[n]'h.2).toNat] = Lib.byteCells (bs ++ [fig m, fig n]) := by
  rw [← two_figs bs m n h, List.append_assoc]
  rfl

set_option maxHeartbeats 1000000 in
theorem implHex_any (s : ByteArray) (w : World) (hs : s.size ≤ 1048576) :
    Calls Try.prog 30 #[.string s] w fun e w' => e = .returned (.string ⟨(hexL s.data.toList).toArray⟩) ∧ Below w.heap.size w w' := by
  go_enter Try.func30, Try.ntmps30
  go_wp2_with (refine wpList_convert_bytes rfl 9 22 5 (.tmp 6) rfl s rfl Try.underlying9 Try.underlying22 Try.underlying5 ?_; intro c w1 cs hrow htk hbel hsz)
  have HK : Hid (Bld (w.heap.size + 2) w.heap.size [] w1 ∧ Below w.heap.size w w1 ∧ w1.heap.size = w.heap.size + 2) := by
    refine ⟨Bld.fresh _ ((hbel.out.block _ (by simp)).trans (heap_alloc_new w _)), ((Below.refl _ w).alloc (Nat.le_refl _) _).trans (hbel.out.mono (by simp)), ?_⟩
    have := hsz.out
    simpa using this
  have hR : Hid (SRow w1 (w.heap.size + 1) 5 cs) := by have := hrow.out; simpa [Hid] using this
  clear hrow hbel hsz
  go_loopw [5, 9] (fun _ i wr => ∃ k : Nat, k ≤ s.size ∧ i = .int .i64 k ∧ Hid (Bld (w.heap.size + 2) w.heap.size (Lib.byteCells (hexL (s.data.toList.take k))) wr ∧ Keeps (w.heap.size + 2) w.heap.size w1 wr)) (fun _ i _ => s.size - (intOf i).toNat)
  case atStart => exact ⟨0, by omega, rfl, HK.out.1, Keeps.refl _ _ _⟩
  case round =>
    obtain ⟨k, hk, rfl, HB⟩ := hrel
    by_cases hk1 : k < s.size
    · obtain ⟨x, hx⟩ : ∃ x, s.data.toList[k]?.getD 0 = x := ⟨_, rfl⟩
      have hc0 := srow_cell (g := w.heap.size + 1) (w := wr) (e := 5) (cs := cs) (by
        have h := HB.out.2.block (w.heap.size + 1) (by omega) (by omega)
        exact h.trans hR.out) htk.out hk1
      rw [hx] at hc0
      have HX := Lib.hid hx
      have hx256 := x.toNat_lt
      clear hx
      have hxl : s.data.toList[k]'(by simpa using hk1) = x := by rw [← HX.out, List.getElem?_eq_getElem (by simpa using hk1)]; rfl
      have hT := hexL_take s.data.toList k (by simpa using hk1)
      rw [hxl] at hT
      have HT := Lib.hid hT
      have hlen := hexL_length (s.data.toList.take k)
      have hlen2 : (hexL (s.data.toList.take k)).length ≤ 2097152 := by rw [hlen, List.length_take]; omega
      have hand : bits .and .u8 (x.toNat : Int) 15 = (x.toNat : Int) % 16 := u8_and15 _ (by omega) (by omega)
      clear hxl hT hlen
      go_wp2_with fail
      refine (writeByte_any _ _ _ _ _ HB.out.1 (by rw [Lib.byteCells_length]; omega) (by have := HB.out.2.size; have := HK.out.2.2; omega)).mono ?_
      rintro e w2 ⟨rfl, h2, k2⟩
      have H2 := Lib.hid h2
      have K2 := Lib.hid (HB.out.2.trans k2)
      clear h2 k2
      go_wp2_with fail
      refine (writeByte_any _ _ _ _ _ H2.out (by rw [List.length_append, Lib.byteCells_length]; simp; omega) (by have := K2.out.size; have := HK.out.2.2; omega)).mono ?_
      rintro e w3 ⟨rfl, h3, k3⟩
      have h3' : Bld (w.heap.size + 2) w.heap.size (Lib.byteCells (hexL (s.data.toList.take (k + 1)))) w3 := by
        rw [HT.out, ← two_figs _ _ _ (by omega)]; exact h3
      have H3 := Lib.hid h3'
      have K3 := Lib.hid (K2.out.trans k3)
      clear h3 k3 h3'
      go_wp2
      go_roundw
      case rel => exact ⟨k + 1, by omega, by go_num, H3.out, K3.out⟩
      case measure => simp [intOf]; omega
    · obtain rfl : k = s.size := by omega
      have hfin : hexL (s.data.toList.take s.size) = hexL s.data.toList := by rw [List.take_of_length_le (by simp)]
      have HF := Lib.hid hfin
      clear hfin
      go_wp2_with fail
      refine (string_any w.heap.size w.heap.size (hexL (s.data.toList.take s.size)) wr (HB.out.1.is (by omega) (Nat.le_refl _)) (by have := HB.out.2.size; have := HK.out.2.2; omega)).mono ?_
      rintro e w2 ⟨rfl, b2⟩
      rw [HF.out]
      have B2 := Lib.hid (HK.out.2.1.trans ((HB.out.2.below (by omega) (Nat.le_refl _)).trans b2))
      clear b2
      go_wp2
      go_ret
      exact ⟨rfl, B2.out⟩

set_option maxHeartbeats 1000000 in
theorem specHex_any (s : ByteArray) (w : World) (hs : s.size ≤ 1048576) :
    Calls Try.prog 31 #[.string s] w fun e w' => e = .returned (.string ⟨(hexL s.data.toList).toArray⟩) ∧ Below w.heap.size w w' := by
  obtain ⟨i0, hi, hz0, hz1, hz2⟩ := info_parts binfo5
  go_enter Try.func31, Try.ntmps31
  go_wp2
  go_loopw [4, 5] (fun v i wr => ∃ k : Nat, k ≤ s.size ∧ i = .int .i64 k ∧ Hid (wr.ownsRow w.heap.size 5 1 v (2 * k) (Lib.byteCells (hexL (s.data.toList.take k)))) ∧ Hid (Below w.heap.size w wr)) (fun _ i _ => s.size - (intOf i).toNat)
  case atStart => exact ⟨0, by omega, rfl, World.ownsRow_made w #[] 0 (Nat.le_refl _) (by decide) rfl, (Below.refl _ _).alloc (Nat.le_refl _) _⟩
  case round =>
    obtain ⟨k, hk, rfl, hown, HB⟩ := hrel
    by_cases hk1 : k < s.size
    · have kk0 : (0 : Int) ≤ k := by omega
      have kk1 : (k : Int) < s.size := by omega
      go_wp2
      obtain ⟨x, hx⟩ : ∃ x, s[k] = x := ⟨_, rfl⟩
      have hx256 := x.toNat_lt
      have hxl : s.data.toList[k]'(by simpa using hk1) = x := by rw [← hx]; rfl
      have hT := hexL_take s.data.toList k (by simpa using hk1)
      rw [hxl] at hT
      have HT := Lib.hid hT
      clear hxl hT
      have q0 : IntKind.u8.wrap ((x.toNat : Int) / 16) = (x.toNat : Int) / 16 := by rw [IntKind.wrap_u8]; omega
      have q1 : (x.toNat : Int) / 16 < 16 := by omega
      have q2 : ((x.toNat : Int) / 16).toNat = x.toNat / 16 := by omega
      have q3 : (x.toNat : Int).tmod 16 = (x.toNat : Int) % 16 := Int.tmod_eq_emod_of_nonneg (by omega)
      have q4 : (x.toNat : Int) % 16 < 16 := by omega
      have q5 : ((x.toNat : Int) % 16).toNat = x.toNat % 16 := by omega
      have q6 : 0 ≤ (x.toNat : Int) % 16 := by omega
      have q7 : 0 ≤ (x.toNat : Int) / 16 := by omega
      have hbase := HB.out.size
      go_region_law (refine step_append_own rfl (.tmp 13) (.tmp 26) 22 rfl w.heap.size 5 i0 (.int .u8 0) 1 1 Try.underlying22 hi hz0 hz1 hz2 rfl (by decide) u4 (2 * k) _ (by simp [Act.eval]) (hown.out.drew.alloc _) ⟨wr.heap.size, 0, none⟩ 2 2 [_, _] (by simp [Act.eval]) rfl (cell_two_new' _ _ _ _) (by simp [Value.oneCell']) (by unfold maxLen; omega) (by omega) (by simp; omega) ?_; intro v' w1 hown' hgrow)
      all_goals
        have hrow' : w1.ownsRow w.heap.size 5 1 v' (2 * (k + 1)) (Lib.byteCells (hexL (s.data.toList.take (k + 1)))) := by
          rw [HT.out, ← two_figs' _ _ _ (by omega)]; exact hown'.out
        have hB' : Below w.heap.size w w1 := (HB.out.drew.alloc (by simpa using hbase) _).grown hgrow.out (by simp; omega) (fun k hk => (hown.out.lt k hk).1)
        have HR' := Lib.hid hrow'
        have HB' := Lib.hid hB'
        clear hrow' hB' hown' hgrow
        go_wp2
        go_roundw
        case rel => exact ⟨k + 1, by omega, by go_num, HR'.out, HB'.out⟩
        case measure => simp [intOf]; omega
    · obtain rfl : k = s.size := by omega
      have hfin : hexL (s.data.toList.take s.size) = hexL s.data.toList := by rw [List.take_of_length_le (by simp)]
      have hcv := convert_own (P := Try.prog) wr 22 9 5 w.heap.size (2 * s.size) (hexL (s.data.toList.take s.size)) u4 (by rw [hexL_length]; simp) Try.underlying22 Try.underlying5 Try.underlying9 hown.out
      rw [hfin] at hcv
      clear hfin
      go_wp2
      go_ret
      exact ⟨rfl, HB.out⟩

set_option maxHeartbeats 400000 in
theorem walkExactHex (s : ByteArray) (hs : s.size ≤ maxLen) (w : World) :
    Calls Try.prog 14 #[.string s] w fun e w' => e = .returned (.bool true) ∧ Below w.heap.size w w' := by
  have hs' := hs
  unfold maxLen at hs'
  by_cases hbig : 1048576 < s.size
  · go_enter Try.func14, Try.ntmps14
    go_wp2
    go_ret
    exact ⟨rfl, Below.refl _ _⟩
  · have hsm : s.size ≤ 1048576 := by omega
    go_enter Try.func14, Try.ntmps14
    go_wp2_with (first | (go_at_call 31; go_must (refine (specHex_any _ _ hsm).mono ?_); rintro e w1 ⟨rfl, hb1⟩) | (go_at_call 30; go_must (refine (implHex_any _ _ hsm).mono ?_); rintro e w2 ⟨rfl, hb2⟩))
    go_ret
    exact ⟨rfl, hb1.trans (hb2.mono hb1.size)⟩
end Go.Proofs.Ytialmfolgendlaa
