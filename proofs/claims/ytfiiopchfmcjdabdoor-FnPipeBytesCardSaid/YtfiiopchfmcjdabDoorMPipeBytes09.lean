/- Texts of the proof of the law FnPipeBytes, side by side: part 9. -/
import Derived.Laws.OwnMore
import Derived.OwnWalk
import Derived.Deep.QuietTactic
import Derived.BigQuiet
import Derived.Deep.RegionWith
import Derived.Test.YtfiiopchfmcjdabDoorMPipeBytes00
import Derived.Test.YtfiiopchfmcjdabDoorMPipeBytes01
import Derived.Test.YtfiiopchfmcjdabDoorMPipeBytes02
import Derived.Test.YtfiiopchfmcjdabDoorMPipeBytes03
import Derived.Test.YtfiiopchfmcjdabDoorMPipeBytes04
import Derived.Test.YtfiiopchfmcjdabDoorMPipeBytes05
import Derived.Test.YtfiiopchfmcjdabDoorMPipeBytes06
import Derived.Test.YtfiiopchfmcjdabDoorMPipeBytes07
import Derived.Test.YtfiiopchfmcjdabDoorMPipeBytes08
/- Feeding byte by byte, purely. -/
namespace Go.Proofs.YtfiiopchfmcjdabDoor
open Go.RowKit
theorem pipeB_size {s : ByteArray} {b : Bool} (h : pipeB s b = true) : s.size ≤ 1800 := by
  unfold pipeB at h
  cases b
  · rw [if_neg (by decide)] at h
    exact (of_decide_eq_true h).2
  · rw [if_pos rfl] at h
    have := eq_of_beq h
    omega
theorem pipe_nil {s : ByteArray} {b : Bool} (hp : pipeB s b = true) (t : ByteArray) (ht : t.size = 0) : pipeF s b t = (b, s, []) := by
  rw [pipeF_of hp (by omega)]
  have ht' : t.data.toList = [] := List.eq_nil_of_length_eq_zero ht
  cases b
  · rw [if_neg (by decide)]
    unfold pipeB at hp
    rw [if_neg (by decide)] at hp
    have e : s ++ t = s := by
      apply ext_ba
      rw [app_toList, ht', List.append_nil]
    rw [e, feed_wait (of_decide_eq_true hp).1]
  · rw [if_pos rfl]
    unfold pipeB at hp
    rw [if_pos rfl] at hp
    have h0 := eq_of_beq hp
    have e : (⟨#[]⟩ : ByteArray) = s := by
      apply ext_ba
      have : s.data.toList = [] := List.eq_nil_of_length_eq_zero h0
      rw [this]
    rw [e]
theorem split_one (T : ByteArray) (j : Nat) (h : j < T.size) : T.extract j T.size = T.extract j (j + 1) ++ T.extract (j + 1) T.size := by
  apply ext_ba
  rw [app_toList, Lib.extract_data, Lib.extract_data, Lib.extract_data]
  have hl : T.data.toList.length = T.size := rfl
  rw [List.take_of_length_le (l := T.data.toList.drop j) (by rw [List.length_drop]; omega), List.take_of_length_le (l := T.data.toList.drop (j + 1)) (by rw [List.length_drop]; omega), show j + 1 - j = 1 by omega]
  conv => lhs; rw [← List.take_append_drop 1 (T.data.toList.drop j)]
  rw [List.drop_drop]
/-- so much is fed: what the pipe is, and how many lists it gave. -/
def At (T XF : ByteArray) (YF : Bool) (Z : List (List ByteArray)) (j : Nat) (X : ByteArray) (Y : Bool) (n : Nat) : Prop :=
  pipeB X Y = true ∧ ∃ Zp Zr, pipeF X Y (T.extract j T.size) = (YF, XF, Zr) ∧ Z = Zp ++ Zr ∧ Zp.length = n
theorem At.step {T XF X : ByteArray} {YF Y : Bool} {Z : List (List ByteArray)} {j n : Nat} (h : At T XF YF Z j X Y n) (hj : j < T.size) (hT : T.size ≤ 300) :
    At T XF YF Z (j + 1) (pipeF X Y (T.extract j (j + 1))).2.1 (pipeF X Y (T.extract j (j + 1))).1 (n + (pipeF X Y (T.extract j (j + 1))).2.2.length) ∧ n + (pipeF X Y (T.extract j (j + 1))).2.2.length ≤ Z.length ∧ ∀ (k : Nat) (hk : k < (pipeF X Y (T.extract j (j + 1))).2.2.length) (hz : n + k < Z.length), Z[n + k]'hz = (pipeF X Y (T.extract j (j + 1))).2.2[k]'hk := by
  obtain ⟨hp, Zp, Zr, he, hZ, hn⟩ := h
  have h1 : (T.extract j (j + 1)).size = 1 := by simp; omega
  have h2 : (T.extract (j + 1) T.size).size = T.size - (j + 1) := by simp
  have hjn := pipe_join hp (t := T.extract j (j + 1)) (u := T.extract (j + 1) T.size) (by omega)
  have ha := (pipe_after hp (t := T.extract j (j + 1)) (by omega)).1
  rw [← split_one T j hj, he] at hjn
  generalize pipeF X Y (T.extract j (j + 1)) = P at hjn ha ⊢
  obtain ⟨P1, P2, P3⟩ := P
  simp only at hjn ha ⊢
  injection hjn with e1 e2
  injection e2 with e2 e3
  refine ⟨⟨ha, Zp ++ P3, (pipeF P2 P1 (T.extract (j + 1) T.size)).2.2, ?_, ?_, by rw [List.length_append, hn]⟩, ?_, ?_⟩
  · rw [e1, e2]
  · rw [hZ, e3, List.append_assoc]
  · rw [hZ, e3, List.length_append, List.length_append, hn]; omega
  · intro k hk hz
    subst hZ
    subst e3
    rw [List.getElem_append_right (by omega)]
    rw [List.getElem_append_left (by omega)]
    congr 1
    omega
theorem At.start {T L : ByteArray} {b : Bool} (hp : pipeB L b = true) : At T (pipeF L b T).2.1 (pipeF L b T).1 (pipeF L b T).2.2 0 L b 0 := by
  refine ⟨hp, [], (pipeF L b T).2.2, ?_, rfl, rfl⟩
  have e : T.extract 0 T.size = T := by
    apply ext_ba
    rw [Lib.extract_data, List.drop_zero, List.take_of_length_le]
    exact Nat.le_refl _
  rw [e]
theorem At.ends {T XF X : ByteArray} {YF Y : Bool} {Z : List (List ByteArray)} {n : Nat} (h : At T XF YF Z T.size X Y n) : X = XF ∧ Y = YF ∧ n = Z.length := by
  obtain ⟨hp, Zp, Zr, he, hZ, hn⟩ := h
  rw [pipe_nil hp _ (by simp)] at he
  injection he with e1 e2
  injection e2 with e2 e3
  refine ⟨e2, e1, ?_⟩
  rw [hZ, ← e3, List.append_nil, hn]
end Go.Proofs.YtfiiopchfmcjdabDoor

/- The laws' helper qnTexts, at equal lists. -/
namespace Go.Proofs.YtfiiopchfmcjdabDoor
open Go.RowKit
set_option maxHeartbeats 400000 in
theorem qnTexts_same (A B : Option Addr) (c d : Nat) (ss : List ByteArray) (w : World) (h : Strs w A ss) (k : Strs w B ss) (hn : ss.length ≤ 1048576) :
    Calls Tryd.prog 13 #[.slice A ss.length c, .slice B ss.length d] w fun e w' => e = .returned (.bool true) ∧ Below w.heap.size w w' := by
  have H := Lib.hid h
  have K := Lib.hid k
  clear h k
  go_enter Tryd.func13, Tryd.ntmps13
  go_wp2
  go_loopw [5] (fun i wr => ∃ k : Nat, k ≤ ss.length ∧ i = .int .i64 k ∧ Hid (Below w.heap.size w wr)) (fun i _ => ss.length - (intOf i).toNat)
  case atStart => exact ⟨0, by omega, rfl, Below.refl _ _⟩
  case round =>
    obtain ⟨k, hk, rfl, HB⟩ := hrel
    by_cases hk1 : k < ss.length
    · obtain ⟨a, rfl, _, hc⟩ := (H.out.below HB.out).2.resolve_left (by intro h; rw [h] at hk1; simp at hk1)
      obtain ⟨b, rfl, _, hd⟩ := (K.out.below HB.out).2.resolve_left (by intro h; rw [h] at hk1; simp at hk1)
      have hck := hc k hk1
      have hdk := hd k hk1
      clear hc hd
      have i0 : (0 : Int) ≤ k := by omega
      have i1 : (k : Int) < ss.length := by omega
      go_wp2
      go_quiet (fail)
      go_wp2
      go_roundw
      case rel => exact ⟨k + 1, by omega, by go_num, below_drawn HB.out _⟩
      case measure => simp [intOf]; omega
    · go_wp2
      go_ret
      exact ⟨rfl, HB.out⟩
end Go.Proofs.YtfiiopchfmcjdabDoor

/- The walk of the law FnPipeBytes. -/
namespace Go.Proofs.YtfiiopchfmcjdabDoor
open Go.RowKit
set_option maxHeartbeats 16000000 in
set_option maxRecDepth 100000 in
theorem walkFnPipeBytes (w : World) (a : Option Addr) (len cap : Nat) (h : Arg w a len cap) :
    Calls Tryd.prog 4 #[.slice a len cap] w fun e w' => e = .returned (.bool true) ∧ Below w.heap.size w w' := by
  have hlen := h.1.1
  unfold maxLen at hlen
  by_cases hbig : 1048576 < len
  · go_enter Tryd.func4, Tryd.ntmps4
    go_wp2
    go_ret
    exact ⟨rfl, Below.refl _ _⟩
  go_enter Tryd.func4, Tryd.ntmps4
  go_wp2_with fail
  refine (drawPipeFeed_any a len cap _ h).mono ?_
  rintro e w1 ⟨L, b, T, hL, hT, rfl, hb1⟩
  have HP := Lib.hid (fun w => pf_px L b T w (by omega) (by omega))
  have HR := Lib.hid (fun w => pr_px L b T w (by omega) (by omega))
  have HST : Hid (pipeB L b = true → At T (pipeF L b T).2.1 (pipeF L b T).1 (pipeF L b T).2.2 0 L b 0) := Lib.hid (fun hp => At.start hp)
  have HBD := Lib.hid (pipeF_bounds L b T)
  have HLF := Lib.hid (pipeF_left L b T)
  obtain ⟨X, hX⟩ : ∃ X, (pipeF L b T).2.1 = X := ⟨_, rfl⟩
  obtain ⟨Y, hY⟩ : ∃ Y, (pipeF L b T).1 = Y := ⟨_, rfl⟩
  obtain ⟨Z, hZ⟩ : ∃ Z, (pipeF L b T).2.2 = Z := ⟨_, rfl⟩
  rw [hX, hY, hZ] at HP HR HST
  rw [hZ] at HBD
  rw [hX] at HLF
  have HOS := Lib.hid (fun w => specPipeOk_any L b w (by omega))
  unfold pipV at HOS
  have HQP := Lib.hid (qnPipe_same X Y)
  have hN5 := heap_alloc_new w1 (.cells #[.string L, .bool b] 24)
  have HN5 := Lib.hid hN5
  have HB1 := Lib.hid (hb1.alloc hb1.size (.cells #[.string L, .bool b] 24))
  have hs1 : (w1.alloc (.cells #[.string L, .bool b] 24)).heap.size = w1.heap.size + 1 := by simp
  clear hX hY hZ hb1 hN5
  go_wp2_with fail
  generalize hg5 : w1.heap.size = g5 at *
  generalize w1.alloc (.cells #[.string L, .bool b] 24) = W1 at *
  refine (HP.out _).mono ?_
  rintro e w2 ⟨v8, q8, rfl, hr8, hq8, hb2⟩
  have HN5' := Lib.hid (kept2 HN5.out hb2)
  have hlt5 : g5 < w2.heap.size := row_lt HN5'.out
  have c50 : ∀ o : Obj, (w2.alloc o).cell? ⟨g5, 0, none⟩ = some (.string L) := fun o => (World.cell?_of_block (heap_alloc_old w2 o hlt5)).trans (cells2 HN5'.out).1
  have c51 : ∀ o : Obj, (w2.alloc o).cell? ⟨g5, 1, none⟩ = some (.bool b) := fun o => (World.cell?_of_block (heap_alloc_old w2 o hlt5)).trans (cells2 HN5'.out).2
  have HK5 := Lib.hid ((heap_alloc_old w2 (.cells #[.string X, .bool Y] 24) hlt5).trans HN5'.out)
  have HN7 := Lib.hid (heap_alloc_new w2 (.cells #[.string X, .bool Y] 24))
  have HR8 := Lib.hid (hr8.below ((Below.refl w2.heap.size w2).alloc (Nat.le_refl _) (.cells #[.string X, .bool Y] 24)))
  have HQ8 := Lib.hid hq8
  have HB2 := Lib.hid ((HB1.out.trans (hb2.mono HB1.out.size)).alloc (by have := HB1.out.size; have := hb2.size; omega) (.cells #[.string X, .bool Y] 24))
  clear hr8 hq8 hb2
  go_wp2_with fail
  clear c50 c51
  generalize hg7 : w2.heap.size = g7 at *
  generalize w2.alloc (.cells #[.string X, .bool Y] 24) = W2 at *
  refine (HR.out _).mono ?_
  rintro e w3 ⟨v10, q10, rfl, hr10, hq10, hb3⟩
  have HM5 := Lib.hid (kept2 HK5.out hb3)
  have HM7 := Lib.hid (kept2 HN7.out hb3)
  have hl5 : g5 < w3.heap.size := row_lt HM5.out
  have hl7 : g7 < w3.heap.size := row_lt HM7.out
  have HG5 := Lib.hid ((heap_alloc_old w3 (.cells #[.string X, .bool Y] 24) hl5).trans HM5.out)
  have HG7 := Lib.hid ((heap_alloc_old w3 (.cells #[.string X, .bool Y] 24) hl7).trans HM7.out)
  have HG9 := Lib.hid (heap_alloc_new w3 (.cells #[.string X, .bool Y] 24))
  have HRA := Lib.hid ((HR8.out.below hb3).below ((Below.refl w3.heap.size w3).alloc (Nat.le_refl _) (.cells #[.string X, .bool Y] 24)))
  have HRB := Lib.hid (hr10.below ((Below.refl w3.heap.size w3).alloc (Nat.le_refl _) (.cells #[.string X, .bool Y] 24)))
  have HQ10 := Lib.hid hq10
  have HB3 := Lib.hid ((HB2.out.trans (hb3.mono HB2.out.size)).alloc (by have := HB2.out.size; have := hb3.size; omega) (.cells #[.string X, .bool Y] 24))
  clear hr10 hq10 hb3 HM5 HM7 HK5 HN7 HR8
  obtain ⟨x0, x1⟩ := cells2 HG7.out
  obtain ⟨y0, y1⟩ := cells2 HG9.out
  go_wp2_with fail
  generalize hg9 : w3.heap.size = g9 at *
  generalize w3.alloc (.cells #[.string X, .bool Y] 24) = W3 at *
  have p0 := True.intro
  have p1 := True.intro
  refine (HQP.out _).mono ?_
  rintro e w4 ⟨rfl, hb4⟩
  have HG5 := Lib.hid (kept2 HG5.out hb4)
  have HG7 := Lib.hid (kept2 HG7.out hb4)
  have HG9 := Lib.hid (kept2 HG9.out hb4)
  have HRA := Lib.hid (HRA.out.below hb4)
  have HRB := Lib.hid (HRB.out.below hb4)
  have HB4 := Lib.hid (HB3.out.trans (hb4.mono HB3.out.size))
  clear hb4 HB3 p0 p1 x0 x1 y0 y1
  obtain ⟨A8, c8, rfl, _, _⟩ := HRA.out
  obtain ⟨A10, c10, rfl, _, _⟩ := HRB.out
  have hlen8 : q8.length = q10.length := by
    have := congrArg List.length (HQ8.out.trans HQ10.out.symm)
    simpa using this
  obtain ⟨N, hN⟩ : ∃ N, q10.length = N := ⟨_, rfl⟩
  rw [hlen8, hN]
  have HN8 := Lib.hid (hlen8.trans hN)
  clear hlen8 hN
  obtain ⟨p0, p1⟩ := cells2 HG5.out
  obtain ⟨x0, x1⟩ := cells2 HG7.out
  obtain ⟨y0, y1⟩ := cells2 HG9.out
  go_wp2_with fail
  refine (HOS.out _).mono ?_
  rintro e W4 ⟨rfl, hb5⟩
  have HG5 := Lib.hid (kept2 HG5.out hb5)
  have HG7 := Lib.hid (kept2 HG7.out hb5)
  have HG9 := Lib.hid (kept2 HG9.out hb5)
  have HRA := Lib.hid (HRA.out.below hb5)
  have HRB := Lib.hid (HRB.out.below hb5)
  have HB5 := Lib.hid (HB4.out.trans (hb5.mono HB4.out.size))
  clear hb5 HB4 p0 p1 x0 x1 y0 y1
  obtain ⟨p0, p1⟩ := cells2 HG5.out
  obtain ⟨x0, x1⟩ := cells2 HG7.out
  obtain ⟨y0, y1⟩ := cells2 HG9.out
  by_cases hT3 : 300 < T.size
  · have hT4 : (300 : Int) < ((T.size : Nat) : Int) := by omega
    cases hG : pipeB L b
    all_goals
      clear hG HST HBD HLF
      go_wp2_with fail
      refine (HQP.out _).mono ?_
      rintro e w6 ⟨rfl, hb6⟩
      have HFIN := Lib.hid (HB5.out.trans (hb6.mono HB5.out.size))
      clear hb6
      go_wp2_with fail
      go_ret
      exact ⟨rfl, HFIN.out⟩
  have hT4 : ¬ (300 : Int) < ((T.size : Nat) : Int) := by omega
  cases hG : pipeB L b
  · clear hG HST HBD HLF
    go_wp2_with fail
    refine (HQP.out _).mono ?_
    rintro e w6 ⟨rfl, hb6⟩
    have HFIN := Lib.hid (HB5.out.trans (hb6.mono HB5.out.size))
    clear hb6
    go_wp2_with fail
    go_ret
    exact ⟨rfl, HFIN.out⟩
  · have HST := Lib.hid (HST.out hG)
    clear hG
    have HG7' := HG7
    have HRA' := HRA
    have HB4 := HB5
    go_wp2_with fail
    have HG10 := Lib.hid (heap_alloc_new W4 (.cells #[.string L, .bool b] 24))
    have HB10 := Lib.hid ((Below.refl W4.heap.size W4).alloc (Nat.le_refl _) (.cells #[.string L, .bool b] 24))
    have HRAf : Hid (∀ V, Below W4.heap.size W4 V → RS V (.slice A8 q8.length c8) q8) := Lib.hid (fun V h => HRA'.out.below h)
    have HG7f : Hid (∀ V, Below W4.heap.size W4 V → V.heap[g7]? = some (.cells #[.string X, .bool Y] 24)) := Lib.hid (fun V h => kept2 HG7'.out h)
    have HBf : Hid (∀ V, Below W4.heap.size W4 V → Below w.heap.size w V) := Lib.hid (fun V h => HB4.out.trans (h.mono HB4.out.size))
    have hNZ : Z.length = N := by rw [← HQ8.out, List.length_map]; exact HN8.out
    have hN750 : N ≤ 750 := by rw [← hNZ]; exact HBD.out.1
    clear p0 p1 x0 x1 y0 y1 HG5 HG7 HG9 HRA HRB HG7' HRA' HB4 HB5
    generalize hg10 : W4.heap.size = g10 at HG10 HB10 HRAf HG7f HBf ⊢
    go_loopw [9, 11] (fun n i wr => ∃ (j n' : Nat) (U : ByteArray) (V : Bool), j ≤ T.size ∧ i = .int .i64 j ∧ n = .int .i64 n' ∧ Hid (At T X Y Z j U V n') ∧ Hid (wr.heap[g10]? = some (.cells #[.string U, .bool V] 24)) ∧ Hid (Below g10 W4 wr)) (fun _ i _ => T.size - (intOf i).toNat)
    case atStart => exact ⟨0, 0, L, b, Nat.zero_le _, rfl, rfl, HST, HG10, HB10⟩
    case round =>
      obtain ⟨j, n', U, V, hj, rfl, rfl, HAT, HGY, HBr⟩ := hrel
      by_cases hjn : j < T.size
      · obtain ⟨j1, hj1⟩ : ∃ m : Nat, j + 1 = m := ⟨_, rfl⟩
        have i0 : (0 : Int) ≤ j := by omega
        have i1 : (j : Int) < T.size := by omega
        have i2 : (j : Int) ≤ j1 := by omega
        have i3 : (j1 : Int) ≤ T.size := by omega
        have hw1 : IntKind.i64.wrap ((j : Int) + 1) = (j1 : Int) := by rw [IntKind.wrap_i64]; omega
        obtain ⟨hA1, hA2, hA3⟩ := HAT.out.step hjn (by omega)
        have hUs := pipeB_size HAT.out.1
        rw [hj1] at hA1 hA2 hA3
        have hcs : (T.extract j j1).size = j1 - j := by simp; omega
        have HPU := Lib.hid (fun w => pf_pz U V (T.extract j j1) w (by omega) (by omega))
        have HBU := Lib.hid (pipeF_bounds U V (T.extract j j1))
        generalize (pipeF U V (T.extract j j1)).2.2 = P3 at hA1 hA2 hA3 HPU HBU
        generalize (pipeF U V (T.extract j j1)).2.1 = P2 at hA1 hA2 hA3 HPU HBU
        generalize (pipeF U V (T.extract j j1)).1 = P1 at hA1 hA2 hA3 HPU HBU
        have HA1 := Lib.hid hA1
        have HA3 := Lib.hid hA3
        clear hA1 hA3 HAT hcs
        obtain ⟨e0, e1⟩ := cells2 HGY.out
        have hltg : g10 < wr.heap.size := row_lt HGY.out
        have ea0 : ∀ o : Obj, (wr.alloc o).cell? ⟨g10, 0, none⟩ = some (.string U) := fun o => (World.cell?_of_block (heap_alloc_old wr o hltg)).trans e0
        have ea1 : ∀ o : Obj, (wr.alloc o).cell? ⟨g10, 1, none⟩ = some (.bool V) := fun o => (World.cell?_of_block (heap_alloc_old wr o hltg)).trans e1
        have HBA := Lib.hid ((Below.refl wr.heap.size wr).alloc (Nat.le_refl _) (.cells #[.string { data := #[] }, .bool false] 24))
        have HNA := Lib.hid (heap_alloc_new wr (.cells #[.string { data := #[] }, .bool false] 24))
        go_wp2_with fail
        go_region_with (first | (go_at_call 8; refine (HPU.out ((wr.alloc (.cells #[.string { data := #[] }, .bool false] 24)).drew)).mono ?_; rintro e w9 ⟨v13, q1, rfl, hr9, hq9, hb9⟩; have hn9 := kept2 (show (wr.alloc (.cells #[.string { data := #[] }, .bool false] 24)).drew.heap[wr.heap.size]? = _ from HNA.out) hb9; obtain ⟨n0, n1⟩ := cells2 hn9; have zn := row_free hn9; have HN9 := Lib.hid hn9; have HB9 := Lib.hid (HBA.out.drew.trans (hb9.mono (by simp))); have HR9 : Hid (SS w9 (wr.heap.size + 1) v13 q1) := Lib.hid (hr9.mono (by simp)); have HQv13 := Lib.hid hq9; clear hr9 hq9 hb9 hn9) | (go_at_call 8; refine (HPU.out wr.drew).mono ?_; rintro e w9 ⟨v13, q1, rfl, hr9, hq9, hb9⟩; have HB9 := Lib.hid (((Below.refl wr.heap.size wr).drew).trans (hb9.mono (by simp))); have HR9 : Hid (SS w9 wr.heap.size v13 q1) := Lib.hid (hr9.mono (by simp)); have HQv13 := Lib.hid hq9; clear hr9 hq9 hb9))
        all_goals
          first
          | (have Hg12 := Lib.hid (rowSet (rowSet HN9.out 0 (.string P2)) 1 (.bool P1))
             have HDW5 := Lib.hid (bel_set (i := 1) (bel_set (i := 0) HB9.out (Nat.le_refl wr.heap.size) (.string P2)) (Nat.le_refl wr.heap.size) (.bool P1))
             have HSv13 := Lib.hid ((((HR9.out.store (i := 0) (u := .string P2) (Nat.lt_succ_self _)).store (i := 1) (u := .bool P1) (Nat.lt_succ_self _))).mono (Nat.le_succ _))
             skip
             generalize hg12 : wr.heap.size = g12 at Hg12 HSv13 HDW5 ⊢
             generalize (w9.setCell ⟨g12, 0, none⟩ (.string P2)).setCell ⟨g12, 1, none⟩ (.bool P1) = W5 at Hg12 HSv13 HDW5 ⊢
             rw [← hg12] at HDW5
             clear HN9 HR9 HB9 n0 n1 zn)
          | (have Hg12 := Lib.hid (heap_alloc_new w9 (.cells #[.string P2, .bool P1] 24))
             have HDW5 := Lib.hid (HB9.out.alloc HB9.out.size (.cells #[.string P2, .bool P1] 24))
             have HSv13 := Lib.hid (HR9.out.below ((Below.refl w9.heap.size w9).alloc (Nat.le_refl _) (.cells #[.string P2, .bool P1] 24)))
             have hlg12 := HB9.out.size
             skip
             generalize hg12 : w9.heap.size = g12 at Hg12 HSv13 HDW5 hlg12 ⊢
             generalize w9.alloc (.cells #[.string P2, .bool P1] 24) = W5 at Hg12 HSv13 HDW5 ⊢
             clear HR9 HB9)
        all_goals
          clear ea0 ea1 e0 e1 HBA HNA
          have HGZ := Lib.hid (kept2 HGY.out HDW5.out)
          have HBz := Lib.hid (HBr.out.trans (HDW5.out.mono (Nat.le_of_lt hltg)))
          have HSR := Lib.hid (HSv13.out.reads (fun r hr x hx => by
            have := (HBU.out.2 r.2 (by rw [← HQv13.out]; exact List.mem_map.2 ⟨r, hr, rfl⟩)).2 x hx
            unfold maxLen; omega))
          have hq1P : q1.length = P3.length := by rw [← HQv13.out, List.length_map]
          obtain ⟨A13, c13, rfl, _, _⟩ := HSR.out
          obtain ⟨Q, hQ⟩ : ∃ Q, q1.length = Q := ⟨_, rfl⟩
          have hPQ : P3.length = Q := by omega
          have hQN : n' + Q ≤ N := by omega
          rw [hQ]
          have HSR' : Hid (RS W5 (.slice A13 Q c13) q1) := Lib.hid (by rw [← hQ]; exact HSR.out)
          clear HSR HSv13 HBr HGY hltg
          go_wp2_with fail
          go_loopw [9, 14] (fun n k w2 => ∃ m : Nat, m ≤ Q ∧ k = .int .i64 m ∧ n = .int .i64 ((n' + m : Nat) : Int) ∧ Hid (Below W5.heap.size W5 w2)) (fun _ k _ => Q - (intOf k).toNat)
          case atStart => exact ⟨0, Nat.zero_le _, rfl, rfl, Lib.hid (Below.refl _ _)⟩
          case round =>
            obtain ⟨m, hm, rfl, rfl, HB2⟩ := hrel
            by_cases hmQ : m < Q
            · obtain ⟨l2, hl2⟩ : ∃ l2 : Nat, n' + m = l2 := ⟨_, rfl⟩
              have hzl : n' + m < Z.length := by omega
              have hA := RS.at_ (HSR'.out.below HB2.out) HQv13.out m (by omega)
              have hB := RS.at_ (HRAf.out wr (HBz.out.trans (HB2.out.mono (by have := HBz.out.size; have := row_lt HGZ.out; omega)))) HQ8.out (n' + m) hzl
              rw [HA3.out m (by omega) hzl] at hB
              have hlm : (P3[m]'(by omega)) ∈ P3 := List.getElem_mem _
              have hln := (HBU.out.2 _ hlm).1
              generalize P3[m]'(by omega) = l at hA hB hlm hln
              obtain ⟨xa, A1, c1, ea, ca, sa⟩ := hA
              obtain ⟨xb, A2, c2, eb, cb, sb⟩ := hB
              subst ea; subst eb
              rw [hl2] at cb ⊢
              have hl2N : l2 < N := by omega
              have m0 : (0 : Int) ≤ m := by omega
              have m1 : (m : Int) < Q := by omega
              have l0 : (0 : Int) ≤ l2 := by omega
              have l1 : (l2 : Int) < N := by omega
              have hwx : ∀ d os, Below wr.heap.size wr («Sort».grow (redrawn wr d) os) := fun d os => below_regrown wr d os
              have HO1 := Lib.hid (fun w' (hb : Below wr.heap.size wr w') => qnTexts_same A1 A2 c1 c2 l w' (sa.below hb) (sb.below hb) (by omega))
              have ra := cell_regrown ca
              have rb := cell_regrown cb
              clear sa sb hlm
              go_wp2_with fail
              refine wp_region_quiet_below (by kernel_rfl) (by kernel_rfl) ?_
              repeat (first | go_big_quiet_step ((go_at_call 13; exact Calls.regrown_of (HO1.out _ (hwx _ _)))) | quiet_step ((go_at_call 13; exact Calls.regrown_of (HO1.out _ (hwx _ _)))))
              refine wpQuiet_nil ?_
              intro _ hw'
              obtain ⟨⟨dq, osq⟩, hw''⟩ := hw'
              subst hw''
              have HBn := Lib.hid (HB2.out.trans ((below_regrown wr dq osq).mono HB2.out.size))
              clear ra rb hwx HO1
              generalize «Sort».grow (redrawn wr dq) osq = wn at *
              go_wp2_with fail
              go_roundw
              case rel => exact ⟨m + 1, by omega, by go_num, by go_num, HBn⟩
              case measure => simp [intOf]; omega
            · have hmQ' : m = Q := by omega
              have HGn := Lib.hid (kept2 HGZ.out HB2.out)
              have HG12 := Lib.hid (kept2 Hg12.out HB2.out)
              obtain ⟨z0, z1⟩ := cells2 HG12.out
              obtain ⟨y0, y1⟩ := cells2 HGn.out
              have zy := row_free HGn.out
              have HBw := Lib.hid (HBz.out.trans (HB2.out.mono (by have := HBz.out.size; have := row_lt HGZ.out; omega)))
              go_wp2_with fail
              go_roundw
              case rel => exact ⟨j1, n' + m, P2, P1, by omega, by go_num, rfl, by rw [hmQ', ← hPQ]; exact HA1, Lib.hid (rowSet (rowSet HGn.out 0 (.string P2)) 1 (.bool P1)), Lib.hid (bel_set (i := 1) (bel_set (i := 0) HBw.out (Nat.le_refl _) (.string P2)) (Nat.le_refl _) (.bool P1))⟩
              case measure => simp [intOf]; omega
      · obtain rfl : j = T.size := by omega
        obtain ⟨rfl, rfl, hnN⟩ := HAT.out.ends
        have hnN' : n' = N := by omega
        subst hnN'
        clear hnN hNZ
        have HGx := Lib.hid (HG7f.out wr HBr.out)
        obtain ⟨u0, u1⟩ := cells2 HGx.out
        obtain ⟨z0, z1⟩ := cells2 HGY.out
        have HBw := Lib.hid (HBf.out wr HBr.out)
        go_wp2_with fail
        refine (HQP.out _).mono ?_
        rintro e w31 ⟨rfl, hb31⟩
        have HB31 := Lib.hid (HBw.out.trans (hb31.mono HBw.out.size))
        clear hb31
        go_wp2_with fail
        go_ret
        exact ⟨rfl, HB31.out⟩
end Go.Proofs.YtfiiopchfmcjdabDoor
