/- impl's packer: noughts, plain, tagged. -/
import Derived.Test.YtgeldgikjcihgaaPkB2
import Derived.Test.YtgeldgikjcihgaaWText
import Derived.Deep.RegionWith
namespace Go.Proofs.Ytgeldgikjcihgaa
open Go.RowKit
def pTag (b : Nat) : Value := .func (.func 38) #[.pointer (some ⟨b, 0, none⟩)] #[]
def pNou (b : Nat) : Value := .func (.func 62) #[.pointer (some ⟨b, 0, none⟩)] #[]
def pPla (b : Nat) : Value := .func (.func 63) #[.pointer (some ⟨b, 0, none⟩)] #[]
def nouL (ws : List (List UInt8)) : List UInt8 := UInt8.ofNat (runN zerL ws) :: packW (ws.drop (runN zerL ws))
def plaL (ws : List (List UInt8)) : List UInt8 := UInt8.ofNat (runN fewL ws) :: ((ws.take (runN fewL ws)).flatten ++ packW (ws.drop (runN fewL ws)))
/-- the state that goes on, and how it will end; so many steps at most are to come. -/
def PJ (R : List UInt8) (B b k : Nat) (s : Value) (w : World) : Prop := ∃ out v ws, PS B b out v ws w ∧ ws.length ≤ 200 ∧
  ((s = pTag b ∧ out ++ packW ws = R ∧ 2 * ws.length + 1 ≤ k) ∨ (s = pNou b ∧ out ++ nouL ws = R ∧ 2 * ws.length + 2 ≤ k) ∨ (s = pPla b ∧ out ++ plaL ws = R ∧ 2 * ws.length + 2 ≤ k) ∨ (s = .nilFunc ∧ out = R))
def PNext (R : List UInt8) (B b k : Nat) (w : World) (e : Ending) (w' : World) : Prop := ∃ s k', k' < k ∧ e = .returned s ∧ PJ R B b k' s w' ∧ Keeps B b w w'
theorem out_le {out x R : List UInt8} (h : out ++ x = R) (hR : R.length ≤ 100000) : out.length ≤ 100000 := by
  rw [← h, List.length_append] at hR; omega
set_option maxHeartbeats 1000000 in
theorem pnou_next (R : List UInt8) (B b k : Nat) (out : List UInt8) (v : Value) (ws : List (List UInt8)) (w : World) (h : PS B b out v ws w) (hl : ws.length ≤ 200) (hR : out ++ nouL ws = R) (hk : 2 * ws.length + 2 ≤ k) (hRl : R.length ≤ 100000) (hBw : B ≤ w.heap.size) :
    Calls Try.prog 62 #[.pointer (some ⟨b, 0, none⟩)] w (PNext R B b k w) := by
  have HT := Lib.hid (ptakeZ_any B b out v ws w h hl (by have := out_le hR hRl; omega) hBw)
  have HR := Lib.hid hR
  clear h hR
  go_enter Try.func62, Try.ntmps62
  go_wp2_with fail
  refine HT.out.mono ?_
  rintro e w1 ⟨v1, v2, rfl, _, hp, hk1⟩
  have HP := Lib.hid hp
  have HK := Lib.hid hk1
  clear hp hk1
  go_wp2
  go_ret
  refine ⟨pTag b, 2 * (ws.drop (runN zerL ws)).length + 1, by rw [List.length_drop]; omega, rfl, ⟨_, _, _, HP.out, by rw [List.length_drop]; omega, .inl ⟨rfl, ?_, Nat.le_refl _⟩⟩, HK.out⟩
  rw [← HR.out, nouL, List.append_assoc]; rfl
set_option maxRecDepth 100000 in
set_option maxHeartbeats 4000000 in
theorem ppla_next (R : List UInt8) (B b k : Nat) (out : List UInt8) (v : Value) (ws : List (List UInt8)) (w : World) (h : PS B b out v ws w) (hl : ws.length ≤ 200) (hR : out ++ plaL ws = R) (hk : 2 * ws.length + 2 ≤ k) (hRl : R.length ≤ 100000) (hBw : B ≤ w.heap.size) :
    Calls Try.prog 63 #[.pointer (some ⟨b, 0, none⟩)] w (PNext R B b k w) := by
  have HT := Lib.hid (ptakeF_any B b out v ws w h hl (by have := out_le hR hRl; omega) hBw)
  have HR := Lib.hid hR
  obtain ⟨hn1, hn2⟩ := runN_le fewL ws
  obtain ⟨n, hn⟩ : ∃ n, runN fewL ws = n := ⟨_, rfl⟩
  rw [hn] at HT hn1 hn2
  have hol := out_le hR hRl
  have HN := Lib.hid hn
  clear h hR hn
  go_enter Try.func63, Try.ntmps63
  go_wp2_with fail
  refine HT.out.mono ?_
  rintro e w1 ⟨v1, v2, rfl, hw1, hp, hk1⟩
  obtain ⟨A, cap, rfl, hc1, hc2, hwd, hrg⟩ := hw1
  have htl : (ws.take n).length = n := by rw [List.length_take]; omega
  rw [htl] at hc1 ⊢
  have HTL := Lib.hid htl
  have HRG := Lib.hid hrg
  have HWD := Lib.hid hwd
  have HP := Lib.hid hp
  have HK := Lib.hid hk1
  have hB1 := Nat.le_trans hBw hk1.size
  clear hp hk1 hrg hwd htl
  go_wp2_with fail
  go_loopw [8] (fun i wr => ∃ j : Nat, j ≤ n ∧ i = .int .i64 j ∧ Hid (BF 58 B b (Lib.byteCells (out ++ [UInt8.ofNat n] ++ ((ws.take n).take j).flatten)) [v2] wr) ∧ Hid (Keeps B b w1 wr)) (fun i _ => n - (intOf i).toNat)
  case atStart => exact ⟨0, by omega, rfl, by simpa [Hid] using HP.out.1, Keeps.refl _ _ _⟩
  case round =>
    obtain ⟨j, hj, rfl, HB, HKR⟩ := hrel
    by_cases hj1 : j < n
    · have hjt : j < (ws.take n).length := by rw [HTL.out]; exact hj1
      obtain ⟨g, o, rfl, hgB, hgb, hr⟩ := HRG.out.resolve_left (by intro h; rw [h] at hjt; simp at hjt)
      have hr1 := range_word HWD.out hr j hjt
      have hr2 : wr.rangeAt g (o + 8 * j) (Lib.byteCells (ws.take n)[j]) := fun i u hu => (keeps_cell HKR.out ⟨g, o + 8 * j + i, none⟩ hgB hgb).trans (hr1 i u hu)
      have hx8 : ((ws.take n)[j]).length = 8 := HWD.out _ (List.getElem_mem hjt)
      have hfl : ((ws.take n).take (j + 1)).flatten = ((ws.take n).take j).flatten ++ (ws.take n)[j] := by
        rw [List.take_succ_eq_append_getElem hjt, List.flatten_append]; simp
      have hflen : ((ws.take n).take j).flatten.length ≤ 2000 := by
        rw [flat_length (HWD.out.take j), List.length_take]; omega
      obtain ⟨x, hx⟩ : ∃ x, (ws.take n)[j] = x := ⟨_, rfl⟩
      rw [hx] at hr2 hx8 hfl
      obtain ⟨b0, b1, b2, b3, b4, b5, b6, b7, rfl⟩ := len8 hx8
      have HFL := Lib.hid hfl
      rw [Nat.mul_comm 8 j] at hr2
      have HR2 := Lib.hid hr2
      have hB2 := Nat.le_trans hB1 HKR.out.size
      clear hx hr hr1 hr2 hx8 hjt hfl
      go_wp2_with (refine wpList_load_mid rfl 50 (.tmp 10) rfl g (o + j * 8) rfl [.int .u8 b0.toNat, .int .u8 b1.toNat, .int .u8 b2.toNat, .int .u8 b3.toNat, .int .u8 b4.toNat, .int .u8 b5.toNat, .int .u8 b6.toNat, .int .u8 b7.toNat] _ HR2.out Try.underlying50 rfl size46 ?_)
      have hlen : (Lib.byteCells (out ++ [UInt8.ofNat n] ++ ((ws.take n).take j).flatten)).length ≤ 1099511627776 := by
        rw [Lib.byteCells_length, List.length_append, List.length_append, List.length_singleton]; omega
      have HLen := Lib.hid hlen
      clear hlen hflen
      have hcat : ∀ l : List UInt8, Lib.byteCells l ++ Lib.strCells ⟨#[b0, b1, b2, b3, b4, b5, b6, b7]⟩ = Lib.byteCells (l ++ [b0, b1, b2, b3, b4, b5, b6, b7]) := fun l => by simp [Lib.byteCells, Lib.strCells]
      have HCat := Lib.hid hcat
      clear hcat
      go_region_with (first | (go_at_call 94; refine (text_lit b0 b1 b2 b3 b4 b5 b6 b7 _).mono ?_; rintro e wt ⟨rfl, hbt⟩; have HBT : Hid (Below wr.heap.size wr wt) := Lib.hid ((((Below.refl wr.heap.size wr).alloc (Nat.le_refl _) _).drew).trans (hbt.mono (by simp))); clear hbt) | (go_at_call 93; refine (fwriteString_any 58 B b (Lib.byteCells (out ++ [UInt8.ofNat n] ++ ((ws.take n).take j).flatten)) [v2] ⟨#[b0, b1, b2, b3, b4, b5, b6, b7]⟩ _ pkT (HB.out.below HBT.out) HLen.out (by show 8 ≤ _; decide) (Nat.le_trans hB2 HBT.out.size)).mono ?_; rintro e w5 ⟨rfl, hU, hK5⟩; have HU := Lib.hid hU; have HK5 := Lib.hid hK5; clear hU hK5))
      all_goals
        go_wp2
        go_roundw
        case rel => exact ⟨j + 1, by omega, by go_num, by rw [HFL.out, ← List.append_assoc, ← HCat.out]; exact HU, (HKR.out.trans (Keeps.of_below (HBT.out.mono hB2))).trans HK5.out⟩
        case measure => simp [intOf]; omega
    · obtain rfl : j = n := by omega
      have hU := HB.out
      rw [List.take_of_length_le (by rw [HTL.out]; exact Nat.le_refl _)] at hU
      have HU := Lib.hid hU
      clear hU
      go_wp2
      go_ret
      refine ⟨pTag b, 2 * (ws.drop j).length + 1, by rw [List.length_drop]; omega, rfl, ⟨_, v2, _, ⟨HU.out, HP.out.2.keeps HKR.out⟩, by rw [List.length_drop]; omega, .inl ⟨rfl, ?_, Nat.le_refl _⟩⟩, HK.out.trans HKR.out⟩
      rw [← HR.out, plaL, HN.out, List.append_assoc, List.append_assoc]; rfl
end Go.Proofs.Ytgeldgikjcihgaa
