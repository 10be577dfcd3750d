/- The laws' helpers markText, markStringS, heldStringS. -/
import Derived.Test.YtliiffpegfkpbabDoorStrsB
import Derived.Test.YtliiffpegfkpbabDoorMath2
import Derived.Lib.QuietBelow
namespace Go.Proofs.YtliiffpegfkpbabDoor
open Go.RowKit
/-- the figures of a number, nothing of 0. -/
def digsL (k : Nat) : List UInt8 := if h : k = 0 then [] else digsL (k / 10) ++ [UInt8.ofNat (48 + k % 10)]
termination_by k
decreasing_by omega
theorem digsL_0 : digsL 0 = [] := by rw [digsL]; rfl
theorem digsL_step (k : Nat) (h : k ≠ 0) : digsL k = digsL (k / 10) ++ [UInt8.ofNat (48 + k % 10)] := by rw [digsL, dif_neg h]
theorem digsL_len : ∀ k : Nat, (digsL k).length ≤ k := by
  intro k
  induction k using Nat.strongRecOn with
  | _ k ih =>
    by_cases h : k = 0
    · subst h; rw [digsL_0]; simp
    · rw [digsL_step k h, List.length_append, List.length_singleton]
      have := ih (k / 10) (by omega)
      omega
/-- the k-th mark. -/
def markB (k : Nat) : ByteArray := ⟨(109 :: digsL k).toArray⟩
theorem markB_size (k : Nat) : (markB k).size ≤ k + 1 := by
  show (109 :: digsL k).length ≤ k + 1
  rw [List.length_cons]
  have := digsL_len k
  omega
theorem cat_one (b : UInt8) (u : ByteArray) : ((⟨#[b]⟩ : ByteArray) ++ u).data.toList = b :: u.data.toList := by simp
set_option maxHeartbeats 1000000 in
set_option maxRecDepth 100000 in
theorem markText_any (k : Nat) (w : World) (h1 : 1 ≤ k) (h2 : k ≤ 2147483647) :
    Calls Tryd.prog 57 #[.int .i64 k] w fun e w' => e = .returned (.string (markB k)) ∧ Below w.heap.size w w' := by
  have hl := digsL_len k
  go_enter Tryd.func57, Tryd.ntmps57
  go_wp2_with fail
  go_loopw [0, 3] (fun m o wr => ∃ (j : Nat) (u : ByteArray), j ≤ k ∧ m = .int .i64 j ∧ o = .string u ∧ Hid (digsL j ++ u.data.toList = digsL k) ∧ Hid (Below w.heap.size w wr)) (fun m _ _ => (intOf m).toNat)
  case atStart => exact ⟨k, ByteArray.empty, by omega, rfl, rfl, by simp [Hid], Below.refl _ _⟩
  case round =>
    obtain ⟨j, u, hj, rfl, rfl, HU, HB⟩ := hrel
    by_cases hj0 : j = 0
    · subst hj0
      have hu : u.data.toList = digsL k := by have := HU.out; rwa [digsL_0, List.nil_append] at this
      have hcat : (⟨#[109]⟩ : ByteArray) ++ u = markB k := by apply ext_ba; rw [cat_one, hu]; rfl
      have hus : u.size ≤ k := by
        have e : u.data.toList.length = u.size := rfl
        rw [hu] at e; omega
      have HC := Lib.hid hcat
      clear hu hcat
      have f1 : ¬ 9223372036854775807 < 1 + u.size := by omega
      go_wp2
      go_ret
      exact ⟨congrArg (fun x => Ending.returned (Value.string x)) HC.out, HB.out⟩
    · have hj1 : (0 : Int) < (j : Int) := by omega
      have hus : u.size ≤ k := by
        have e : u.data.toList.length = u.size := rfl
        have h3 := congrArg List.length HU.out
        rw [List.length_append] at h3; omega
      have hd : digsL (j / 10) ++ (UInt8.ofNat (48 + j % 10) :: u.data.toList) = digsL k := by
        rw [← HU.out, digsL_step j hj0, List.append_assoc]; rfl
      have HD := Lib.hid hd
      have hbv : (48 : Int) + (j : Int) % 10 = ((UInt8.ofNat (48 + j % 10)).toNat : Int) := by rw [UInt8.toNat_ofNat']; omega
      have hrow := heap_alloc_new wr (.cells #[.int .u8 (48 + (j : Int) % 10)] 5)
      have hcv : (convert 22 9 (.slice (some ⟨wr.heap.size, 0, none⟩) 1 1)).run Tryd.prog (wr.alloc (.cells #[.int .u8 (48 + (j : Int) % 10)] 5)) = .ok (.string ⟨#[UInt8.ofNat (48 + j % 10)]⟩) (wr.alloc (.cells #[.int .u8 (48 + (j : Int) % 10)] 5)) := by
        exact convert_wd _ _ _ _ _ _ 1 [UInt8.ofNat (48 + j % 10)] rfl Tryd.underlying22 Tryd.underlying5 Tryd.underlying9 hrow (by rw [hbv]; rfl)
      have HB2 := Lib.hid (HB.out.alloc HB.out.size (.cells #[.int .u8 (48 + (j : Int) % 10)] 5))
      have f1 : ¬ 9223372036854775807 < 1 + u.size := by omega
      have hw8 : IntKind.u8.wrap (48 + (j : Int) % 10) = 48 + (j : Int) % 10 := by rw [IntKind.wrap_u8]; omega
      generalize hb : UInt8.ofNat (48 + j % 10) = b at HD hcv
      clear hrow hbv hd hb
      have hq : ((j : Int) / 10) = ((j / 10 : Nat) : Int) := by omega
      have HQ := Lib.hid hq
      clear hq
      go_wp2
      go_roundw
      case rel => exact ⟨j / 10, _, by omega, by rw [HQ.out], rfl, by rw [cat_one]; exact HD, HB2⟩
      case measure => simp [intOf]; omega
/-- the first k strings of a row are marks, the others whatever. -/
def Marks (xs : List Value) (n q k : Nat) : Prop := xs.length = n ∧ (∀ i, i < n → ∃ b : ByteArray, xs[i]? = some (.string b)) ∧ ∀ i, i < k → xs[i]? = some (.string (markB (q + i)))
theorem Marks.start (ss : List ByteArray) (q : Nat) : Marks (ss.map Value.string) ss.length q 0 :=
  ⟨by simp, fun i hi => ⟨ss[i], by simp [List.getElem?_eq_getElem hi]⟩, fun i hi => by omega⟩
theorem Marks.step {xs : List Value} {n q k : Nat} (h : Marks xs n q k) (hk : k < n) : Marks (xs.set k (.string (markB (q + k)))) n q (k + 1) := by
  obtain ⟨h1, h2, h3⟩ := h
  refine ⟨by simp [h1], fun i hi => ?_, fun i hi => ?_⟩
  · by_cases hik : k = i
    · subst hik
      exact ⟨_, by rw [List.getElem?_set, if_pos rfl, if_pos (by omega)]⟩
    · rw [List.getElem?_set, if_neg hik]; exact h2 i hi
  · by_cases hik : k = i
    · subst hik
      rw [List.getElem?_set, if_pos rfl, if_pos (by omega)]
    · rw [List.getElem?_set, if_neg hik]; exact h3 i (by omega)
theorem own_sl {w : World} {B e n : Nat} {v : Value} {xs : List Value} (h : w.ownsRow B e 1 v n xs) : (n = 0 ∧ v = .slice none 0 0) ∨ ∃ g cap, v = .slice (some ⟨g, 0, none⟩) n cap := by
  rcases h.2 with ⟨rfl, rfl⟩ | ⟨g, cap, _, rfl, _⟩
  · exact .inl ⟨rfl, rfl⟩
  · exact .inr ⟨g, cap, rfl⟩
set_option maxHeartbeats 1000000 in
theorem markStringS_any (B : Nat) (v : Value) (n q : Nat) (xs : List Value) (w : World) (hM : Marks xs n q 0) (hown : w.ownsRow B 9 1 v n xs) (hBw : B ≤ w.heap.size) (h1 : 1 ≤ q) (h2 : q ≤ 1000000) (hn : n ≤ 1000000) :
    Calls Tryd.prog 47 #[v, .int .i64 q] w fun e w' => e = .returned (.int .i64 ((q + n : Nat) : Int)) ∧ (∃ ys, Marks ys n q n ∧ w'.ownsRow B 9 1 v n ys) ∧ Below B w w' := by
  rcases own_sl hown with ⟨rfl, rfl⟩ | ⟨g, cap, rfl⟩
  · have HM := Lib.hid (⟨xs, hM, hown⟩ : ∃ ys, Marks ys 0 q 0 ∧ w.ownsRow B 9 1 (.slice none 0 0) 0 ys)
    clear hM hown
    go_enter Tryd.func47, Tryd.ntmps47
    go_wp2_with fail
    refine wp_loop_rounds 1 ?_
    rw [rounds_succ]
    go_wp2
    go_ret
    exact ⟨ret_int (by omega), HM.out, Below.refl _ _⟩
  have HM := Lib.hid hM
  have HO := Lib.hid hown
  clear hM hown
  go_enter Tryd.func47, Tryd.ntmps47
  go_wp2_with fail
  go_loopw [1, 5] (fun m i wr => ∃ (k : Nat) (ys : List Value), k ≤ n ∧ i = .int .i64 k ∧ m = .int .i64 ((q + k : Nat) : Int) ∧ Hid (Marks ys n q k) ∧ Hid (wr.ownsRow B 9 1 (.slice (some ⟨g, 0, none⟩) n cap) n ys) ∧ Hid (Below B w wr) ∧ Hid (B ≤ wr.heap.size)) (fun _ i _ => n - (intOf i).toNat)
  case atStart => exact ⟨0, xs, by omega, rfl, by simp, HM.out, HO.out, Below.refl _ _, hBw⟩
  case round =>
    obtain ⟨k, ys, hk, rfl, rfl, HM, HO, HB, HS⟩ := hrel
    by_cases hk1 : k < n
    · go_wp2_with fail
      refine (markText_any (q + k) _ (by omega) (by omega)).mono ?_
      rintro e w1 ⟨rfl, hb1⟩
      have HO1 := Lib.hid (HO.out.kept (row := none) ⟨hb1.os, hb1.tape, hb1.output, hb1.size, fun k hk _ => hb1.block k hk⟩ (Classical.em _))
      have HB1 := Lib.hid (HB.out.trans (hb1.mono HS.out))
      have HS1 := Lib.hid (Nat.le_trans HS.out hb1.size)
      clear hb1
      obtain ⟨b, hb⟩ := HM.out.2.1 k hk1
      have hcell := HO1.out.cellAt k (by omega)
      rw [hb] at hcell
      have hfr := HO1.out.frozenAt k
      have hst := HO1.out.stored k (.string (markB (q + k)))
      have HST := Lib.hid hst
      have HM2 := Lib.hid (HM.out.step hk1)
      clear hst hb
      generalize markB (q + k) = mk at HST HM2 ⊢
      go_wp2
      have hrow' := HST.out.1
      have hB' := HB1.out.grown HST.out.2 HS1.out (fun k e => (HO1.out.lt k e).1)
      have hS' := Nat.le_trans HS1.out HST.out.2.size
      go_roundw
      case rel => exact ⟨k + 1, _, by omega, by go_num, by go_num, HM2, hrow', hB', hS'⟩
      case measure => simp [intOf]; omega
    · obtain rfl : k = n := by omega
      go_wp2
      go_ret
      exact ⟨rfl, ⟨ys, HM.out, HO.out⟩, HB.out⟩
set_option maxHeartbeats 1000000 in
theorem heldStringS_any (B : Nat) (v : Value) (n q : Nat) (xs : List Value) (w : World) (hM : Marks xs n q n) (hown : w.ownsRow B 9 1 v n xs) (h1 : 1 ≤ q) (h2 : q ≤ 1000000) (hn : n ≤ 1000000) :
    Calls Tryd.prog 48 #[v, .int .i64 q] w fun e w' => e = .returned (.int .i64 ((q + n : Nat) : Int)) ∧ Below w.heap.size w w' := by
  rcases own_sl hown with ⟨rfl, rfl⟩ | ⟨g, cap, rfl⟩
  · clear hM hown
    go_enter Tryd.func48, Tryd.ntmps48
    go_wp2_with fail
    refine wp_loop_rounds 1 ?_
    rw [rounds_succ]
    go_wp2
    go_ret
    exact ⟨ret_int (by omega), Below.refl _ _⟩
  have HM := Lib.hid hM
  have HO := Lib.hid hown
  clear hM hown
  go_enter Tryd.func48, Tryd.ntmps48
  go_wp2_with fail
  go_loopw [1, 5] (fun m i wr => ∃ (k : Nat), k ≤ n ∧ i = .int .i64 k ∧ m = .int .i64 ((q + k : Nat) : Int) ∧ Hid (Below w.heap.size w wr)) (fun _ i _ => n - (intOf i).toNat)
  case atStart => exact ⟨0, by omega, rfl, by simp, Below.refl _ _⟩
  case round =>
    obtain ⟨k, hk, rfl, rfl, HB⟩ := hrel
    by_cases hk1 : k < n
    · have hlt := (HO.out.lt g rfl).2
      have hcell := (HB.out.cell (p := ⟨g, k, none⟩) hlt).trans (HO.out.cellAt k (by omega))
      rw [HM.out.2.2 k hk1] at hcell
      have hcr := cell_regrown hcell
      clear hcell hlt
      have hmt : Hid (∀ w : World, Calls Tryd.prog 57 #[.int .i64 ((q : Int) + (k : Int))] w fun e w' => e = .returned (.string (markB (q + k))) ∧ Below w.heap.size w w') := Lib.hid (fun w => by
        have := markText_any (q + k) w (by omega) (by omega)
        rwa [Int.natCast_add] at this)
      generalize markB (q + k) = mk at hcr hmt
      have i1 : (k : Int) < (n : Int) := by omega
      have i0 : (0 : Int) ≤ (k : Int) := by omega
      go_wp2_with fail
      refine wp_region_quiet_below (by kernel_rfl) (by kernel_rfl) ?_
      repeat (first | go_big_quiet_step ((go_at_call 57; exact Calls.regrown_of (hmt.out _))) | quiet_step ((go_at_call 57; exact Calls.regrown_of (hmt.out _))))
      refine wpQuiet_nil ?_
      intro _ hw'
      obtain ⟨⟨dq, osq⟩, hw''⟩ := hw'
      subst hw''
      have HB1 := Lib.hid (HB.out.trans ((below_regrown wr dq osq).mono HB.out.size))
      clear hcr
      go_wp2
      go_roundw
      case rel => exact ⟨k + 1, by omega, by go_num, by go_num, HB1⟩
      case measure => simp [intOf]; omega
    · obtain rfl : k = n := by omega
      go_wp2
      go_ret
      exact ⟨rfl, HB.out⟩
end Go.Proofs.YtliiffpegfkpbabDoor
