/- Texts of the proof of the law FnPipeBytes, side by side: part 3. -/
import Derived.Deep.QuietTactic
import Derived.BigQuiet
import Derived.Maps.AppendAt
import Derived.Deep.LoopGhost
import Derived.Lib.QuietBelow
import Derived.Test.YtfiiopchfmcjdabDoorMPipeBytes00
import Derived.Test.YtfiiopchfmcjdabDoorMPipeBytes01
import Derived.Test.YtfiiopchfmcjdabDoorMPipeBytes02
/- the specification's l1Ok, l1Size, l1Get and Get: what they answer. -/
namespace Go.Proofs.YtfiiopchfmcjdabDoor
open Go.RowKit

set_option maxHeartbeats 400000 in
theorem l1Get_any (s : ByteArray) (at_ size : Int) (w : World) (hs : s.size ≤ maxLen) (h0 : 0 ≤ at_) (ha : at_ ≤ 1152921504606846976) (h1 : 0 ≤ size) (h2 : size ≤ 8) :
    Calls Tryd.prog 59 #[.string s, .int .i64 at_, .int .i64 size] w fun e w' => e = .returned (.int .i64 (wrap64 (leN s.data.toList at_.toNat size.toNat : Nat))) ∧ w = w' := by
  unfold maxLen at hs
  obtain ⟨a, rfl⟩ := Int.eq_ofNat_of_zero_le h0
  obtain ⟨z, rfl⟩ := Int.eq_ofNat_of_zero_le h1
  go_enter Tryd.func59, Tryd.ntmps59
  go_wp2
  go_loop [7, 8, 9] (fun n i _ => ∃ k : Nat, k ≤ z ∧ i = .int .i64 ((z : Int) - 1 - k) ∧ n = .int .i64 (wrap64 (leN s.data.toList (a + z - k) k : Nat))) (fun _ i _ => (intOf i + 1).toNat)
  case atStart => exact ⟨0, by omega, by simp, by simp [leN, wrap64]⟩
  case round =>
    obtain ⟨k, hk, rfl, rfl⟩ := hrel
    by_cases hlt : k < z
    · by_cases hin : a + z - 1 - k < s.size
      · go_wp2
        go_round
        case rel => exact ⟨k + 1, by omega, by go_num, by rw [get_round s a z k hlt (by omega) (by omega)]⟩
        case measure => simp [intOf]; omega
      · go_wp2
        go_round
        case rel => exact ⟨k + 1, by omega, by go_num, by rw [get_round_out s a z k hlt (by omega) hin]⟩
        case measure => simp [intOf]; omega
    · go_wp2
      go_ret
      refine ⟨ret_int ?_, rfl⟩
      obtain rfl : k = z := by omega
      simp
end Go.Proofs.YtfiiopchfmcjdabDoor

/- the specification's l1Zero. -/
namespace Go.Proofs.YtfiiopchfmcjdabDoor
open Go.RowKit
def zerB (l : List UInt8) : Bool := l.all (· == 0)
set_option maxHeartbeats 400000 in
theorem l1Zero_any (s : ByteArray) (w : World) (hs : s.size ≤ maxLen) :
    Calls Tryd.prog 60 #[.string s] w fun e w' => e = .returned (.bool (zerB s.data.toList)) ∧ w = w' := by
  unfold maxLen at hs
  have hl : s.data.toList.length = s.size := by simp
  have HL := Lib.hid hl
  clear hl
  go_enter Tryd.func60, Tryd.ntmps60
  go_wp2
  go_loop [3] (fun i => ∃ k : Nat, k ≤ s.size ∧ i = .int .i64 (k : Int) ∧ ∀ j, j < k → s.data.toList[j]?.getD 0 = 0) (fun i => (s.size - intOf i).toNat)
  case atStart => exact ⟨0, by omega, by simp, fun j hj => by omega⟩
  case round =>
    obtain ⟨k, hk, rfl, hz⟩ := hrel
    have HZ := Lib.hid hz
    clear hz
    by_cases hlt : k < s.size
    · have hg := bytes_get s k hlt
      have HG := Lib.hid hg
      clear hg
      by_cases hb : s[k] = 0
      · have hb' : (((s[k]).toNat : Int) == 0) = true := by simp [hb]
        have HB := Lib.hid hb
        clear hb
        go_wp2
        go_round
        case rel =>
          refine ⟨k + 1, by omega, by go_num, fun j hj => ?_⟩
          by_cases hjk : j < k
          · exact HZ.out j hjk
          · obtain rfl : j = k := by omega
            rw [HG.out, HB.out]
        case measure => simp [intOf]; omega
      · have hb' : (((s[k]).toNat : Int) == 0) = false := by
          rw [beq_eq_false_iff_ne]
          intro h
          exact hb (UInt8.toNat_inj.1 (by simpa using h))
        have HB := Lib.hid hb
        clear hb
        go_wp2
        go_ret
        refine ⟨ret_bool ?_, rfl⟩
        rw [eq_comm, zerB, List.all_eq_false]
        refine ⟨s[k], ?_, by simpa using HB.out⟩
        rw [← HG.out, List.getElem?_eq_getElem (by rw [HL.out]; exact hlt)]
        exact List.getElem_mem _
    · go_wp2
      go_ret
      refine ⟨ret_bool ?_, rfl⟩
      rw [eq_comm, zerB, List.all_eq_true]
      intro x hx
      obtain ⟨j, hj, rfl⟩ := List.mem_iff_getElem.1 hx
      have := HZ.out j (by rw [HL.out] at hj; omega)
      rw [List.getElem?_eq_getElem hj] at this
      simpa using this
/-- how many of the first k words are left when words of noughts are taken from their end. -/
def trimN (l : List UInt8) : Nat → Nat
  | 0 => 0
  | k + 1 => if zerB ((l.drop (8 * k)).take 8) then trimN l k else k + 1
theorem trimN_le (l : List UInt8) : ∀ k, trimN l k ≤ k
  | 0 => Nat.le_refl _
  | k + 1 => by
    unfold trimN
    split
    · have := trimN_le l k; omega
    · omega
end Go.Proofs.YtfiiopchfmcjdabDoor

/- spec.FrameGet: what it answers at every text of at most 2^40 bytes. -/
namespace Go.Proofs.YtfiiopchfmcjdabDoor
open Go.RowKit
/-- what FrameGet answers. -/
def SG (s : ByteArray) (w : World) (e : Ending) (w' : World) : Prop :=
  ∃ A cap, e = .returned (.tuple #[.slice A (fg s).2.length cap, .int .i64 (fg s).1]) ∧ Strs w' A (fg s).2 ∧ Below w.heap.size w w'
/-- the same, the list being new. -/
def SGo (s : ByteArray) (w : World) (e : Ending) (w' : World) : Prop :=
  ∃ A cap, e = .returned (.tuple #[.slice A (fg s).2.length cap, .int .i64 (fg s).1]) ∧ Strs w' A (fg s).2 ∧ (∀ a, A = some a → 0 < (fg s).2.length → w.heap.size ≤ a.block) ∧ Below w.heap.size w w'
theorem SGo.none {s : ByteArray} {w w' : World} {c : Int} {A : Option Addr} {cap : Nat} (h : fg s = (c, [])) (hb : Below w.heap.size w w') : SGo s w (.returned (.tuple #[.slice A 0 cap, .int .i64 c])) w' :=
  ⟨A, cap, by rw [h]; rfl, by rw [h]; exact Strs.nil _ _, fun _ _ hl => (by rw [h] at hl; exact absurd hl (Nat.lt_irrefl 0)), hb⟩
theorem l1Get_gN (s : ByteArray) (k : Nat) (w : World) (hs : s.size ≤ maxLen) (hk : k ≤ 100) :
    Calls Tryd.prog 59 #[.string s, .int .i64 (4 + 4 * (k : Int)), .int .i64 4] w fun e w' => e = .returned (.int .i64 (gN s.data.toList (k + 1) : Nat)) ∧ w = w' := by
  have h := l1Get_any s (4 + 4 * (k : Int)) 4 w hs (by omega) (by omega) (by decide) (by decide)
  have hl := gN_lt s.data.toList (k + 1)
  have e : wrap64 ((leN s.data.toList (4 + 4 * (k : Int)).toNat (4 : Int).toNat : Nat) : Int) = ((gN s.data.toList (k + 1) : Nat) : Int) := by
    have e2 : leN s.data.toList (4 + 4 * (k : Int)).toNat (4 : Int).toNat = gN s.data.toList (k + 1) := by rw [gN]; congr 1; omega
    rw [e2, wrap64_small _ (by omega)]
  rw [e] at h
  exact h
theorem szs_mono (l : List UInt8) (k : Nat) : ∀ n, k ≤ n → (szs l k).sum ≤ (szs l n).sum := by
  intro n hn
  induction n with
  | zero => obtain rfl : k = 0 := by omega
            exact Nat.le_refl _
  | succ m ih =>
    by_cases hk : k = m + 1
    · rw [hk]; exact Nat.le_refl _
    · have := ih (by omega)
      rw [szs_sum_succ]; omega
theorem strs_own {w : World} {base n cap : Nat} {e : TypeId} {A : Option Addr} {ss : List ByteArray} (h : w.ownsRow base e 1 (.slice A n cap) n (ss.map Value.string)) (hs : ∀ s ∈ ss, s.size ≤ maxLen) : Strs w A ss := by
  rcases h.2 with ⟨_, h0⟩ | ⟨g, cap, _, he, _⟩
  · have : ss = [] := by
      have h1 := h.1
      rw [h0] at h1
      exact List.eq_nil_of_length_eq_zero (by simpa using h1)
    subst this
    exact Strs.nil _ _
  · cases he
    refine ⟨hs, .inr ⟨_, rfl, (h.lt g rfl).2, fun i hi => ?_⟩⟩
    exact h.cells rfl i _ (by simp [List.getElem?_eq_getElem hi])
set_option maxRecDepth 100000 in
set_option maxHeartbeats 4000000 in
theorem specFrameGet_own (s : ByteArray) (w : World) (hs : s.size ≤ 1099511627776) :
    Calls Tryd.prog 31 #[.string s] w (SGo s w) := by
  have hpost : ∃ P : Ending → World → Prop, P = SGo s w := ⟨_, rfl⟩
  obtain ⟨P, hP⟩ := hpost
  rw [← hP]
  have HP := Lib.hid hP
  clear hP
  obtain ⟨i0, hi, hz0, hz1, hz2⟩ := info_parts infoStr
  by_cases h4 : s.size < 4
  · have h4' : ((s.size : Nat) : Int) < 4 := by omega
    have hf := fg0 h4
    have HF := Lib.hid hf
    clear hf
    go_enter Tryd.func31, Tryd.ntmps31
    go_wp2
    rw [HP.out]
    exact SGo.none HF.out ((Below.refl _ _).alloc (Nat.le_refl _) _)
  have h4 : 4 ≤ s.size := by omega
  have h4' : ¬ ((s.size : Nat) : Int) < 4 := by omega
  have hg := gN_lt s.data.toList 0
  obtain ⟨n, hn⟩ : ∃ n, gN s.data.toList 0 + 1 = n := ⟨_, rfl⟩
  have hn1 : 1 ≤ n := by omega
  have HN := Lib.hid hn
  have hGN : Hid (∀ w : World, Calls Tryd.prog 59 #[.string s, .int .i64 0, .int .i64 4] w fun e w' => e = .returned (.int .i64 ((n : Int) - 1)) ∧ w = w') := Lib.hid (fun w => by
    have := l1Get_any s 0 4 w (by unfold maxLen; omega) (by decide) (by decide) (by decide) (by decide)
    have e : wrap64 ((leN s.data.toList (0 : Int).toNat (4 : Int).toNat : Nat) : Int) = (n : Int) - 1 := by
      have e2 : leN s.data.toList (0 : Int).toNat (4 : Int).toNat = gN s.data.toList 0 := rfl
      rw [e2, wrap64_small _ (by omega)]; omega
    rw [e] at this
    exact this)
  have hnl : n ≤ 4294967296 := by omega
  clear hg hn
  go_enter Tryd.func31, Tryd.ntmps31
  go_wp2_with fail
  refine (hGN.out _).mono ?_
  rintro e w' ⟨rfl, rfl⟩
  have HB1 : Hid (Below w.heap.size w (w.alloc (.cells #[] 9))) := Lib.hid ((Below.refl _ _).alloc (Nat.le_refl _) _)
  by_cases h6 : 6 < n
  · have h6' : (6 : Int) < (n : Int) - 1 + 1 := by omega
    go_wp2
    rw [HP.out]
    exact SGo.none (fg1 HN.out h4 h6) HB1.out
  have h6' : ¬ (6 : Int) < (n : Int) - 1 + 1 := by omega
  have h6 : n ≤ 6 := by omega
  obtain ⟨W1, hW1⟩ : ∃ W1, w.alloc (.cells #[] 9) = W1 := ⟨_, rfl⟩
  rw [hW1] at HB1 ⊢
  have HW1 := Lib.hid hW1
  clear hW1
  obtain ⟨hd, hhd⟩ : ∃ hd, fgHead n = hd := ⟨_, rfl⟩
  have hhd2 : (n / 2 + 1) * 8 = hd := hhd
  have HHD := Lib.hid hhd
  have hdl : hd ≤ 32 ∧ 8 ≤ hd := by omega
  obtain ⟨hdl, hd8⟩ := hdl
  have hpar : ((4 + 4 * (n : Int)) % 8 != 0) = true ∧ 4 + 4 * (n : Int) + 4 = (hd : Int) ∨ ((4 + 4 * (n : Int)) % 8 != 0) = false ∧ 4 + 4 * (n : Int) = (hd : Int) := by
    by_cases hp : n % 2 = 0
    · left
      exact ⟨by simp; omega, by omega⟩
    · right
      exact ⟨by simp; omega, by omega⟩
  have h8n : 4 + 4 * (n : Int) ≤ (hd : Int) := by omega
  clear hhd hhd2
  by_cases hsh : s.size < hd
  · rcases hpar with ⟨hp1, hp2⟩ | ⟨hp1, hp2⟩
    all_goals
      have h7 : ((s.size : Nat) : Int) < (hd : Int) := by omega
      rw [← hp2] at h7
      clear hp2
      go_wp2
      rw [HP.out]
      exact SGo.none (fg2 HN.out h4 h6 (by rw [HHD.out]; exact hsh)) HB1.out
  have hsh : hd ≤ s.size := by omega
  have hzz : zerB (s.extract (4 + 4 * n) hd).data.toList = fgZ s.data.toList n := by
    rw [zerB, fgZ, HHD.out, Lib.extract_data, List.drop_take, show 4 * (n + 1) = 4 + 4 * n by omega]
  have HZZ := Lib.hid hzz
  clear hzz
  rcases hpar with ⟨hp1, hp2⟩ | ⟨hp1, hp2⟩
  all_goals
    have h7 : ¬ ((s.size : Nat) : Int) < (hd : Int) := by omega
    rw [← hp2] at h7
    have HP2 := Lib.hid hp2
    clear hp2
    go_wp2_with fail
    rw [HP2.out] at h7 ⊢
    have hb7 : decide (((s.size : Nat) : Int) < (hd : Int)) = false := decide_eq_false (by omega)
    rw [hb7]
    clear hp1 hb7 h7
    go_loopw [7, 8] (fun t i wr => ∃ k : Nat, k ≤ n ∧ i = .int .i64 k ∧ t = .int .i64 ((szs s.data.toList k).sum : Nat) ∧ W1 = wr) (fun _ i _ => n - (intOf i).toNat)
    case atStart => exact ⟨0, by omega, rfl, rfl, rfl⟩
    case round =>
      obtain ⟨k, hk, rfl, rfl, rfl⟩ := hrel
      have hsl := szs_sum_lt s.data.toList k
      by_cases hk1 : k < n
      · have hgl := gN_lt s.data.toList (k + 1)
        have hsum := szs_sum_succ s.data.toList k
        have HSu := Lib.hid hsum
        clear hsum
        generalize (szs s.data.toList k).sum = T at hsl HSu ⊢
        go_wp2_with fail
        refine (l1Get_gN s k _ (by unfold maxLen; omega) (by omega)).mono ?_
        rintro e w' ⟨rfl, rfl⟩
        generalize gN s.data.toList (k + 1) = G at hgl HSu ⊢
        go_wp2
        go_roundw
        case rel => exact ⟨k + 1, by omega, by go_num, by rw [HSu.out]; go_num, trivial⟩
        case measure => simp [intOf]; omega
      · obtain rfl : k = n := by omega
        obtain ⟨T, hT⟩ : ∃ T, (szs s.data.toList k).sum = T := ⟨_, rfl⟩
        rw [hT] at hsl ⊢
        have HT := Lib.hid hT
        clear hT
        by_cases hbig : 200 < T
        · have h9 : (200 : Int) < (T : Int) := by omega
          go_wp2
          rw [HP.out]
          exact SGo.none (fg3 HN.out h4 h6 (by rw [HHD.out]; exact hsh) (.inr (by rw [HT.out]; exact hbig))) HB1.out
        have hbig : T ≤ 200 := by omega
        have h9 : ¬ (200 : Int) < (T : Int) := by omega
        have hsI : ((hd : Nat) : Int) ≤ ((s.size : Nat) : Int) := by omega
        go_wp2_with fail
        refine (l1Zero_any _ _ (by unfold maxLen; simp; omega)).mono ?_
        rintro e w' ⟨rfl, rfl⟩
        rw [HZZ.out]
        cases hz : fgZ s.data.toList k
        · have HZ := Lib.hid hz
          clear hz
          go_wp2
          rw [HP.out]
          exact SGo.none (fg3 HN.out h4 h6 (by rw [HHD.out]; exact hsh) (.inl HZ.out)) HB1.out
        have HZ := Lib.hid hz
        clear hz
        by_cases hlt : s.size < hd + 8 * T
        · have h10 : ((s.size : Nat) : Int) < (hd : Int) + 8 * (T : Int) := by omega
          go_wp2
          rw [HP.out]
          exact SGo.none (fg4 HN.out h4 h6 (by rw [HHD.out]; exact hsh) HZ.out (by rw [HT.out]; exact hbig) (by rw [HHD.out, HT.out]; exact hlt)) HB1.out
        have h10 : ¬ ((s.size : Nat) : Int) < (hd : Int) + 8 * (T : Int) := by omega
        go_wp2_with fail
        have hb10 : decide (((s.size : Nat) : Int) < (hd : Int) + 8 * (T : Int)) = false := decide_eq_false (by omega)
        rw [hb10]
        clear hb10 h10 h9 hsl
        have hlT : hd + 8 * T ≤ s.size := by omega
        have HO0 : Hid ((W1.alloc (.cells #[] 9)).ownsRow W1.heap.size 9 1 (.slice (some ⟨W1.heap.size, 0, none⟩) 0 0) 0 []) := Lib.hid (World.ownsRow_made W1 #[] 0 (Nat.le_refl _) (by decide) rfl)
        have HB2 : Hid (Below w.heap.size w (W1.alloc (.cells #[] 9))) := Lib.hid (HB1.out.alloc HB1.out.size _)
        have hWsz := HB1.out.size
        go_loopw [9, 10, 11] (fun v at_ i wr => ∃ j : Nat, j ≤ k ∧ i = .int .i64 j ∧ at_ = .int .i64 ((hd + 8 * (szs s.data.toList j).sum : Nat) : Int) ∧ Hid (wr.ownsRow W1.heap.size 9 1 v j ((cutB s hd (szs s.data.toList j)).map Value.string)) ∧ Hid (Below w.heap.size w wr) ∧ Hid (W1.heap.size ≤ wr.heap.size)) (fun _ _ i _ => k - (intOf i).toNat)
        case atStart => exact ⟨0, by omega, rfl, rfl, HO0, HB2, by simp [Hid]⟩
        case round =>
          obtain ⟨j, hj, rfl, rfl, HO, HB, HSZ⟩ := hrel
          obtain ⟨A2, cp, rfl⟩ := own_shape HO.out
          have hm := szs_mono s.data.toList j k hj
          rw [HT.out] at hm
          by_cases hj1 : j < k
          · have hgl := gN_lt s.data.toList (j + 1)
            have hm1 := szs_mono s.data.toList (j + 1) k hj1
            have hsum := szs_sum_succ s.data.toList j
            have hst := szs_succ s.data.toList j
            have hct := cutB_snoc s (szs s.data.toList j) hd (gN s.data.toList (j + 1))
            rw [← hst] at hct
            rw [HT.out] at hm1
            obtain ⟨U, hU⟩ : ∃ U, (szs s.data.toList j).sum = U := ⟨_, rfl⟩
            rw [hU] at hsum hm hct ⊢
            have hG := l1Get_gN s j
            obtain ⟨G, hGG⟩ : ∃ G, gN s.data.toList (j + 1) = G := ⟨_, rfl⟩
            rw [hGG] at hgl hsum hct hG
            have HG := Lib.hid hG
            have HSu := Lib.hid hsum
            have HCT := Lib.hid hct
            have hUG : U + G ≤ T := by omega
            have hsz1 := HB.out.size
            have hsz2 := HSZ.out
            clear hsum hct hG hst hU hGG hm1
            go_wp2_with fail
            refine (HG.out _ (by unfold maxLen; omega) (by omega)).mono ?_
            rintro e w' ⟨rfl, rfl⟩
            go_wp2_with (at_builtin; go_must (refine wpList_append_own _ rfl (.tmp 83) (.tmp 90) 33 rfl W1.heap.size 9 i0 (.string ByteArray.empty) 1 16 Tryd.underlying33 hi hz0 hz1 hz2 rfl (by decide) _ _ _ rfl (HO.out.alloc _) ⟨wr.heap.size, 0, none⟩ 1 1 [.string (s.extract (hd + 8 * U) (hd + 8 * U + 8 * G))] rfl rfl (cell_one_new _ _ _) (by simp [Value.oneCell']) (by unfold maxLen; omega) (by omega) (by simp <;> omega) ?_); intro v' wn hown' hgrow _)
            have HON := Lib.hid (show wn.ownsRow W1.heap.size 9 1 v' (j + 1) ((cutB s hd (szs s.data.toList (j + 1))).map Value.string) by rw [HCT.out, List.map_append]; exact hown')
            have hbn : Below W1.heap.size wr wn := below_append (Below.refl _ _) hsz2 HO.out hgrow
            have HBN := Lib.hid (HB.out.trans (hbn.mono hWsz))
            have HSN := Lib.hid (Nat.le_trans hsz2 hbn.size)
            clear hgrow hown' hbn
            go_wp2
            go_roundw
            case rel => exact ⟨j + 1, by omega, by go_num, by rw [HSu.out]; go_num, HON, HBN, HSN⟩
            case measure => simp [intOf]; omega
          · obtain rfl : j = k := by omega
            have hf := fg5 HN.out h4 h6 (by rw [HHD.out]; exact hsh) HZ.out (by rw [HT.out]; exact hbig) (by rw [HHD.out, HT.out]; exact hlT)
            rw [HHD.out, HT.out] at hf
            have HF := Lib.hid hf
            rw [HT.out]
            clear hf hm
            go_wp2
            rw [HP.out]
            have hl : (fg s).2.length = j := by rw [HF.out]; show (cutB _ _ _).length = _; rw [cutB_length, szs_length]
            refine ⟨A2, cp, by rw [hl, HF.out]; rfl, ?_, fun a ha hp => ?_, HB.out⟩
            rotate_left
            · subst ha
              have := (HO.out.lt a.block rfl).1
              omega
            have h3 := HO.out
            have h5 : (fg s).2 = cutB s hd (szs s.data.toList j) := by rw [HF.out]
            rw [h5]
            exact strs_own h3 (fun x hx => by have := cutB_size s _ _ x hx; unfold maxLen; omega)
theorem specFrameGet_any (s : ByteArray) (w : World) (hs : s.size ≤ 1099511627776) :
    Calls Tryd.prog 31 #[.string s] w (SG s w) :=
  (specFrameGet_own s w hs).mono fun e w' ⟨A, cap, h1, h2, _, h4⟩ => ⟨A, cap, h1, h2, h4⟩
end Go.Proofs.YtfiiopchfmcjdabDoor

/- Which pipes are ok: the program and the specification answer the same; the laws' helpers of pipes. -/
namespace Go.Proofs.YtfiiopchfmcjdabDoor
open Go.RowKit
/-- a pipe as a value. -/
def pipV (s : ByteArray) (b : Bool) : Value := .agg #[.string s, .bool b]
def pipeB (s : ByteArray) (b : Bool) : Bool := if b then s.size == 0 else decide ((fg s).1 = 0 ∧ s.size ≤ 1800)
theorem pp_loop (d : ByteArray) (i : Nat) (r : List UInt8) : (ByteArray.toList.loop d i r).length = r.length + (d.size - i) := by
  fun_induction ByteArray.toList.loop d i r with
  | case1 i r h ih => rw [ih]; simp only [List.length_cons]; omega
  | case2 i r h => simp only [List.length_reverse]; omega
theorem pp_empty (d : ByteArray) : d.toList.isEmpty = (d.size == 0) := by
  have h := pp_loop d 0 []
  simp only [List.length_nil] at h
  unfold ByteArray.toList
  rw [Bool.eq_iff_iff, List.isEmpty_iff, ← List.length_eq_zero_iff, h]
  simp
theorem cells2 {w : World} {b : Nat} {a0 a1 : Value} {T : TypeId} (h : w.heap[b]? = some (.cells #[a0, a1] T (0, 0))) : w.cell? ⟨b, 0, none⟩ = some a0 ∧ w.cell? ⟨b, 1, none⟩ = some a1 := by
  simp [World.cell?, h]
theorem kept2 {w w' : World} {b : Nat} {o : Obj} (h : w.heap[b]? = some o) (hb : Below w.heap.size w w') : w'.heap[b]? = some o := by
  have hlt : b < w.heap.size := by
    rcases Nat.lt_or_ge b w.heap.size with hlt | hge
    · exact hlt
    · rw [Array.getElem?_eq_none hge] at h; cases h
  exact (hb.block b hlt).trans h
set_option maxHeartbeats 1000000 in
theorem implPipeOk_any (s : ByteArray) (b : Bool) (w : World) (hs : s.size ≤ 1099511627776) :
    Calls Tryd.prog 11 #[pipV s b] w fun e w' => e = .returned (.bool (pipeB s b)) ∧ Below w.heap.size w w' := by
  unfold pipV
  have HB0 := Lib.hid ((Below.refl w.heap.size w).alloc (Nat.le_refl _) (.cells #[.string s, .bool b] 24))
  cases b
  · have HE : Hid (pipeB s false = (decide ((fg s).1 = 0) && decide (s.size ≤ 1800))) := Lib.hid (by rw [Bool.eq_iff_iff]; simp [pipeB])
    have HI : Hid (∀ w : World, Calls Tryd.prog 36 #[.string s] w (FG s w)) := Lib.hid (fun w => implFrameGet_any s w hs)
    obtain ⟨c, hc⟩ : ∃ c, (fg s).1 = c := ⟨_, rfl⟩
    have HC := Lib.hid hc
    clear hc
    by_cases h0 : c = 0
    · subst h0
      go_enter Tryd.func11, Tryd.ntmps11
      go_wp2_with (go_at_call 36; refine (HI.out _).mono ?_; rintro e w1 ⟨v, rfl, hown, hb1⟩; rw [HC.out]; have hk1 := kept2 (heap_alloc_new w _) hb1; obtain ⟨c0, c1⟩ := cells2 hk1; have HB1 := Lib.hid hb1; clear hown hb1 hk1)
      go_ret
      refine ⟨?_, HB0.out.trans (HB1.out.mono (by simp))⟩
      rw [HE.out, HC.out]
      exact ret_bool (by rw [Bool.eq_iff_iff]; simp; try omega)
    · have hn : (c == 0) = false := by simpa using h0
      have H0 := Lib.hid h0
      clear h0
      go_enter Tryd.func11, Tryd.ntmps11
      go_wp2_with (go_at_call 36; refine (HI.out _).mono ?_; rintro e w1 ⟨v, rfl, hown, hb1⟩; rw [HC.out]; have hk1 := kept2 (heap_alloc_new w _) hb1; obtain ⟨c0, c1⟩ := cells2 hk1; have HB1 := Lib.hid hb1; clear hown hb1 hk1)
      go_ret
      refine ⟨?_, HB0.out.trans (HB1.out.mono (by simp))⟩
      rw [HE.out, HC.out, decide_eq_false H0.out]
      rfl
  · have he := pp_empty s
    have HE : Hid (pipeB s true = (s.size == 0)) := Lib.hid rfl
    go_enter Tryd.func11, Tryd.ntmps11
    go_wp2
    go_ret
    refine ⟨?_, HB0.out⟩
    rw [HE.out]
    exact ret_bool (by simp_all)
set_option maxHeartbeats 1000000 in
theorem specPipeOk_any (s : ByteArray) (b : Bool) (w : World) (hs : s.size ≤ 1099511627776) :
    Calls Tryd.prog 12 #[pipV s b] w fun e w' => e = .returned (.bool (pipeB s b)) ∧ Below w.heap.size w w' := by
  unfold pipV
  have HB0 := Lib.hid ((Below.refl w.heap.size w).alloc (Nat.le_refl _) (.cells #[.string s, .bool b] 24))
  cases b
  · have HE : Hid (pipeB s false = (decide ((fg s).1 = 0) && decide (s.size ≤ 1800))) := Lib.hid (by rw [Bool.eq_iff_iff]; simp [pipeB])
    have HI : Hid (∀ w : World, Calls Tryd.prog 31 #[.string s] w (SG s w)) := Lib.hid (fun w => specFrameGet_any s w hs)
    obtain ⟨c, hc⟩ : ∃ c, (fg s).1 = c := ⟨_, rfl⟩
    have HC := Lib.hid hc
    clear hc
    by_cases h0 : c = 0
    · subst h0
      go_enter Tryd.func12, Tryd.ntmps12
      go_wp2_with (go_at_call 31; refine (HI.out _).mono ?_; rintro e w1 ⟨A0, cp, rfl, hst, hb1⟩; rw [HC.out]; have hk1 := kept2 (heap_alloc_new w _) hb1; obtain ⟨c0, c1⟩ := cells2 hk1; have HB1 := Lib.hid hb1; clear hst hb1 hk1)
      go_ret
      refine ⟨?_, HB0.out.trans (HB1.out.mono (by simp))⟩
      rw [HE.out, HC.out]
      exact ret_bool (by rw [Bool.eq_iff_iff]; simp; try omega)
    · have hn : (c == 0) = false := by simpa using h0
      have H0 := Lib.hid h0
      clear h0
      go_enter Tryd.func12, Tryd.ntmps12
      go_wp2_with (go_at_call 31; refine (HI.out _).mono ?_; rintro e w1 ⟨A0, cp, rfl, hst, hb1⟩; rw [HC.out]; have hk1 := kept2 (heap_alloc_new w _) hb1; obtain ⟨c0, c1⟩ := cells2 hk1; have HB1 := Lib.hid hb1; clear hst hb1 hk1)
      go_ret
      refine ⟨?_, HB0.out.trans (HB1.out.mono (by simp))⟩
      rw [HE.out, HC.out, decide_eq_false H0.out]
      rfl
  · have he := pp_empty s
    have HE : Hid (pipeB s true = (s.size == 0)) := Lib.hid rfl
    go_enter Tryd.func12, Tryd.ntmps12
    go_wp2
    go_ret
    refine ⟨?_, HB0.out⟩
    rw [HE.out]
    exact ret_bool (by simp_all)
end Go.Proofs.YtfiiopchfmcjdabDoor

/- What PipeFeed tells, as plain facts; lists of lists of texts of one's own; the program's steps. -/
namespace Go.Proofs.YtfiiopchfmcjdabDoor
open Go.RowKit
/-- a whole frame has eight bytes at least, and no more than the text. -/
theorem fg_whole {s : ByteArray} (h : 0 < (fg s).1) : ∃ n : Nat, (fg s).1 = (n : Int) ∧ 8 ≤ n ∧ n ≤ s.size := by
  revert h
  unfold fg fgHead
  repeat' split
  all_goals first | (intro h; simp at h; done) | (intro h; exact ⟨_, rfl, by omega, by omega⟩)
theorem fg_short {s : ByteArray} (h : (fg s).1 ≤ 0) : (fg s).1 = 0 ∨ (fg s).1 = -1 := by
  have := (fg_code s).1
  omega
/-- broken; what is left; the frames. -/
abbrev Fed := Bool × ByteArray × List (List ByteArray)
def feedN : Nat → ByteArray → Fed
  | 0, s => (false, s, [])
  | k + 1, s => if (fg s).1 < 0 then (true, ⟨#[]⟩, []) else if (fg s).1 = 0 then (false, s, []) else ((feedN k (s.extract (fg s).1.toNat s.size)).1, (feedN k (s.extract (fg s).1.toNat s.size)).2.1, (fg s).2 :: (feedN k (s.extract (fg s).1.toNat s.size)).2.2)
/-- frame by frame. -/
def feedB (s : ByteArray) : Fed := feedN (s.size + 1) s
theorem cut_size (s : ByteArray) (n : Nat) (h : n ≤ s.size) : (s.extract n s.size).size = s.size - n := by simp
theorem feedN_more : ∀ (k : Nat) (s : ByteArray), s.size < k → feedN k s = feedB s := by
  intro k
  induction k with
  | zero => intro s h; omega
  | succ k ih =>
    intro s h
    unfold feedB
    rw [feedN, feedN]
    by_cases h1 : (fg s).1 < 0
    · rw [if_pos h1, if_pos h1]
    · rw [if_neg h1, if_neg h1]
      by_cases h2 : (fg s).1 = 0
      · rw [if_pos h2, if_pos h2]
      · rw [if_neg h2, if_neg h2]
        obtain ⟨n, hn, h8, hle⟩ := fg_whole (s := s) (by omega)
        have hc : (s.extract (fg s).1.toNat s.size).size = s.size - n := by rw [hn]; exact cut_size s n hle
        have e1 := ih (s.extract (fg s).1.toNat s.size) (by omega)
        have e2 : feedN s.size (s.extract (fg s).1.toNat s.size) = feedB (s.extract (fg s).1.toNat s.size) := by
          by_cases hk : s.size ≤ k
          · have : ∀ j, (s.extract (fg s).1.toNat s.size).size < j → j ≤ k → feedN j (s.extract (fg s).1.toNat s.size) = feedB (s.extract (fg s).1.toNat s.size) := by
              intro j hj1 hj2
              have hm : ∀ (a b : Nat) (t : ByteArray), t.size < a → a ≤ b → feedN a t = feedN b t := by
                intro a
                induction a with
                | zero => intro b t ht; omega
                | succ a iha =>
                  intro b t ht hab
                  obtain ⟨b, rfl⟩ : ∃ c, b = c + 1 := ⟨b - 1, by omega⟩
                  rw [feedN, feedN]
                  by_cases g1 : (fg t).1 < 0
                  · rw [if_pos g1, if_pos g1]
                  · rw [if_neg g1, if_neg g1]
                    by_cases g2 : (fg t).1 = 0
                    · rw [if_pos g2, if_pos g2]
                    · rw [if_neg g2, if_neg g2]
                      obtain ⟨m, hm, m8, mle⟩ := fg_whole (s := t) (by omega)
                      have hmc : (t.extract (fg t).1.toNat t.size).size = t.size - m := by rw [hm]; exact cut_size t m mle
                      rw [iha b _ (by omega) (by omega)]
              rw [hm j k _ hj1 hj2]
              exact e1
            exact this s.size (by omega) hk
          · omega
        rw [e1, e2]
theorem feed_bad {s : ByteArray} (h : (fg s).1 < 0) : feedB s = (true, ⟨#[]⟩, []) := by
  unfold feedB; rw [feedN, if_pos h]
theorem feed_wait {s : ByteArray} (h : (fg s).1 = 0) : feedB s = (false, s, []) := by
  unfold feedB; rw [feedN, if_neg (by omega), if_pos h]
theorem feed_more {s : ByteArray} {n : Nat} (h : (fg s).1 = (n : Int)) (h1 : 0 < n) (hle : n ≤ s.size) : feedB s = ((feedB (s.extract n s.size)).1, (feedB (s.extract n s.size)).2.1, (fg s).2 :: (feedB (s.extract n s.size)).2.2) := by
  have hc := cut_size s n hle
  conv => lhs; unfold feedB
  rw [feedN, if_neg (by omega), if_neg (by omega), show (fg s).1.toNat = n by omega, feedN_more _ _ (by omega)]
/-- what PipeFeed answers. -/
def pipeF (s : ByteArray) (b : Bool) (t : ByteArray) : Fed :=
  if pipeB s b = false ∨ 4000 < t.size then (false, ⟨#[]⟩, []) else if b then (true, ⟨#[]⟩, []) else feedB (s ++ t)
/-- texts side by side, of one's own. -/
abbrev Inn := Value × List ByteArray
def ibs (q : List Inn) : List Nat := q.filterMap fun r => r.1.ownBlock
theorem ibs_snoc (q : List Inn) (r : Inn) : ibs (q ++ [r]) = ibs q ++ ibs [r] := by unfold ibs; rw [List.filterMap_append]
/-- lists of texts side by side, each of one's own, each block once. -/
structure SS (w : World) (B : Nat) (v : Value) (q : List Inn) : Prop where
  out : w.ownsRow B 33 1 v q.length (q.map (·.1))
  inn : ∀ r ∈ q, w.ownsRow B 9 1 r.1 r.2.length (r.2.map Value.string)
  nod : (ibs q).Nodup
  sep : ∀ b ∈ ibs q, some b ≠ v.ownBlock
theorem SS.nil (w : World) (B : Nat) : SS w B (.slice none 0 0) [] := ⟨World.ownsRow_nil _ _ _ _, fun r h => (by cases h), List.nodup_nil, fun b h => (by cases h)⟩
theorem SS.ltI {w : World} {B : Nat} {v : Value} {q : List Inn} (h : SS w B v q) : ∀ b ∈ ibs q, B ≤ b ∧ b < w.heap.size := by
  intro b hb
  obtain ⟨r, hr, hrb⟩ := List.mem_filterMap.1 hb
  exact (h.inn r hr).lt b hrb
theorem SS.frame {w w' : World} {B : Nat} {v : Value} {q : List Inn} (h : SS w B v q) (hf : ∀ b, v.ownBlock = some b ∨ b ∈ ibs q → w'.heap[b]? = w.heap[b]?) : SS w' B v q := by
  have hk : ∀ {e n : Nat} {u : Value} {xs : List Value}, w.ownsRow B e 1 u n xs → (∀ b, u.ownBlock = some b → w'.heap[b]? = w.heap[b]?) → w'.ownsRow B e 1 u n xs := by
    intro e n u xs ho hb
    refine ⟨ho.1, ?_⟩
    rcases ho.2 with hn | ⟨g, cap, cur, rfl, h1, h2, h3⟩
    · exact .inl hn
    · exact .inr ⟨g, cap, cur, rfl, h1, (hb g rfl).trans h2, h3⟩
  exact ⟨hk h.out (fun b e => hf b (.inl e)), fun r hr => hk (h.inn r hr) (fun b e => hf b (.inr (List.mem_filterMap.2 ⟨r, hr, e⟩))), h.nod, h.sep⟩
theorem SS.below {w w' : World} {B : Nat} {v : Value} {q : List Inn} (h : SS w B v q) (hb : Below w.heap.size w w') : SS w' B v q :=
  h.frame (fun b hm => hb.block b (by
    rcases hm with e | hm
    · exact (h.out.lt b e).2
    · exact (h.ltI b hm).2))
theorem SS.store {w : World} {B g i : Nat} {u v : Value} {q : List Inn} (h : SS w B v q) (hg : g < B) : SS (w.setCell ⟨g, i, none⟩ u) B v q :=
  h.frame (fun b hm => Below.heap_setCell w ⟨g, i, none⟩ u b (by
    show b ≠ g
    rcases hm with e | hm
    · have := (h.out.lt b e).1; omega
    · have := (h.ltI b hm).1; omega))
theorem SS.mono {w : World} {B C : Nat} {v : Value} {q : List Inn} (h : SS w B v q) (hC : C ≤ B) : SS w C v q := by
  have hk : ∀ {e n : Nat} {u : Value} {xs : List Value}, w.ownsRow B e 1 u n xs → w.ownsRow C e 1 u n xs := by
    intro e n u xs ho
    refine ⟨ho.1, ?_⟩
    rcases ho.2 with hn | ⟨g, cap, cur, hv, h1, h2⟩
    · exact .inl hn
    · exact .inr ⟨g, cap, cur, hv, Nat.le_trans hC h1, h2⟩
  exact ⟨hk h.out, fun r hr => hk (h.inn r hr), h.nod, h.sep⟩
/-- one more list is put behind. -/
theorem SS.next {w w' : World} {B H : Nat} {v v' : Value} {q : List Inn} {r : Inn} (h : SS w B v q) (hr : w.ownsRow H 9 1 r.1 r.2.length (r.2.map Value.string)) (hBH : B ≤ H) (hq : ∀ b ∈ ibs q, b < H) (hv : ∀ b, v.ownBlock = some b → b < H)
    (hown : w'.ownsRow B 33 1 v' (q.length + 1) (q.map (·.1) ++ [r.1])) (hgrow : w.grownBy w' v.ownBlock) (hat : v'.ownBlock = v.ownBlock ∨ v'.ownBlock = some w.heap.size) : SS w' B v' (q ++ [r]) := by
  have hsep : ∀ b, b < w.heap.size → some b ≠ v.ownBlock → some b ≠ v'.ownBlock := fun b h1 h2 e => by
    rcases hat with e2 | e2
    · exact h2 (e.trans e2)
    · rw [e2] at e; injection e with e; omega
  have hrb : ∀ b, r.1.ownBlock = some b → H ≤ b ∧ b < w.heap.size ∧ some b ≠ v.ownBlock := fun b e => by
    have := hr.lt b e
    exact ⟨this.1, this.2, fun e2 => by have := hv b e2.symm; omega⟩
  have hk : ∀ {e n : Nat} {u : Value} {xs : List Value} {C : Nat}, w.ownsRow C e 1 u n xs → B ≤ C → (∀ b, u.ownBlock = some b → some b ≠ v.ownBlock) → w'.ownsRow B e 1 u n xs := by
    intro e n u xs C ho hC hb
    refine ⟨ho.1, ?_⟩
    rcases ho.2 with hn | ⟨g, cap, cur, rfl, h1, h2, h3⟩
    · exact .inl hn
    · refine .inr ⟨g, cap, cur, rfl, Nat.le_trans hC h1, ?_, h3⟩
      exact (hgrow.block g (row_lt h2) (hb g rfl)).trans h2
  refine ⟨?_, ?_, ?_, ?_⟩
  · rw [List.length_append, List.map_append]; exact hown
  · intro x hx
    rcases List.mem_append.1 hx with hx | hx
    · exact hk (h.inn x hx) (Nat.le_refl _) (fun b e => h.sep b (List.mem_filterMap.2 ⟨x, hx, e⟩))
    · obtain rfl := List.mem_singleton.1 hx
      exact hk hr hBH (fun b e => (hrb b e).2.2)
  · rw [ibs_snoc]
    refine List.nodup_append.2 ⟨h.nod, ?_, ?_⟩
    · unfold ibs
      simp only [List.filterMap_cons, List.filterMap_nil]
      split <;> simp
    · intro a ha b hb e
      subst e
      have h1 := hq a ha
      obtain ⟨x, hx, hxb⟩ := List.mem_filterMap.1 hb
      obtain rfl := List.mem_singleton.1 hx
      have := (hrb a hxb).1
      omega
  · intro b hb
    rw [ibs_snoc] at hb
    rcases List.mem_append.1 hb with hb | hb
    · exact hsep b (h.ltI b hb).2 (h.sep b hb)
    · obtain ⟨x, hx, hxb⟩ := List.mem_filterMap.1 hb
      obtain rfl := List.mem_singleton.1 hx
      exact hsep b (hrb b hxb).2.1 (hrb b hxb).2.2
theorem infoStrs : (Tryd.prog.info? 33).map (fun i => (i.zero, i.size, i.bytes)) = some (some (.slice none 0 0), 1, 24) := by kernel_rfl
/-- the program's pipe that is fed. -/
def Fd (w : World) (g : Nat) (L : ByteArray) (k : Bool) (told st : Value) : Prop := w.heap[g]? = some (.cells #[.string L, .bool k, told, st] 71 (0, 0))
theorem Fd.below {w w' : World} {g : Nat} {L : ByteArray} {k : Bool} {told st : Value} (h : Fd w g L k told st) (hb : Below w.heap.size w w') : Fd w' g L k told st := (hb.block g (row_lt h)).trans h
theorem Fd.cells {w : World} {g : Nat} {L : ByteArray} {k : Bool} {told st : Value} (h : Fd w g L k told st) : w.cell? ⟨g, 0, none⟩ = some (.string L) ∧ w.cell? ⟨g, 1, none⟩ = some (.bool k) ∧ w.cell? ⟨g, 2, none⟩ = some told ∧ w.cell? ⟨g, 3, none⟩ = some st := by
  unfold Fd at h
  simp [World.cell?, h]
def fNxt (g : Nat) : Value := .func (.func 34) #[.pointer (some ⟨g, 0, none⟩)] #[]
def fBro (g : Nat) : Value := .func (.func 35) #[.pointer (some ⟨g, 0, none⟩)] #[]
end Go.Proofs.YtfiiopchfmcjdabDoor

/- The laws' helpers markText, markStringS, heldStringS. -/
namespace Go.Proofs.YtfiiopchfmcjdabDoor
open Go.RowKit
/-- the figures of a number, nothing of 0. -/
def digsL (k : Nat) : List UInt8 := if h : k = 0 then [] else digsL (k / 10) ++ [UInt8.ofNat (48 + k % 10)]
termination_by k
decreasing_by omega
theorem digsL_0 : digsL 0 = [] := by rw [digsL]; rfl
theorem digsL_step (k : Nat) (h : k ≠ 0) : digsL k = digsL (k / 10) ++ [UInt8.ofNat (48 + k % 10)] := by rw [digsL, dif_neg h]
theorem digsL_len : ∀ k : Nat, (digsL k).length ≤ k := by
  intro k
  induction k using Nat.strongRecOn with
  | _ k ih =>
    by_cases h : k = 0
    · subst h; rw [digsL_0]; simp
    · rw [digsL_step k h, List.length_append, List.length_singleton]
      have := ih (k / 10) (by omega)
      omega
/-- the k-th mark. -/
def markB (k : Nat) : ByteArray := ⟨(109 :: digsL k).toArray⟩
theorem markB_size (k : Nat) : (markB k).size ≤ k + 1 := by
  show (109 :: digsL k).length ≤ k + 1
  rw [List.length_cons]
  have := digsL_len k
  omega
theorem cat_one (b : UInt8) (u : ByteArray) : ((⟨#[b]⟩ : ByteArray) ++ u).data.toList = b :: u.data.toList := by simp
/-- the first k strings of a row are marks, the others whatever. -/
def Marks (xs : List Value) (n q k : Nat) : Prop := xs.length = n ∧ (∀ i, i < n → ∃ b : ByteArray, xs[i]? = some (.string b)) ∧ ∀ i, i < k → xs[i]? = some (.string (markB (q + i)))
theorem Marks.start (ss : List ByteArray) (q : Nat) : Marks (ss.map Value.string) ss.length q 0 :=
  ⟨by simp, fun i hi => ⟨ss[i], by simp [List.getElem?_eq_getElem hi]⟩, fun i hi => by omega⟩
theorem Marks.step {xs : List Value} {n q k : Nat} (h : Marks xs n q k) (hk : k < n) : Marks (xs.set k (.string (markB (q + k)))) n q (k + 1) := by
  obtain ⟨h1, h2, h3⟩ := h
  refine ⟨by simp [h1], fun i hi => ?_, fun i hi => ?_⟩
  · by_cases hik : k = i
    · subst hik
      exact ⟨_, by rw [List.getElem?_set, if_pos rfl, if_pos (by omega)]⟩
    · rw [List.getElem?_set, if_neg hik]; exact h2 i hi
  · by_cases hik : k = i
    · subst hik
      rw [List.getElem?_set, if_pos rfl, if_pos (by omega)]
    · rw [List.getElem?_set, if_neg hik]; exact h3 i (by omega)
theorem own_sl {w : World} {B e n : Nat} {v : Value} {xs : List Value} (h : w.ownsRow B e 1 v n xs) : (n = 0 ∧ v = .slice none 0 0) ∨ ∃ g cap, v = .slice (some ⟨g, 0, none⟩) n cap := by
  rcases h.2 with ⟨rfl, rfl⟩ | ⟨g, cap, _, rfl, _⟩
  · exact .inl ⟨rfl, rfl⟩
  · exact .inr ⟨g, cap, rfl⟩
end Go.Proofs.YtfiiopchfmcjdabDoor
