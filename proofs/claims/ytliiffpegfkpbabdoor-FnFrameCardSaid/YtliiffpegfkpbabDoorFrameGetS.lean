/- spec.FrameGet: what it answers at every text of at most 2^40 bytes. -/
import Derived.Test.YtliiffpegfkpbabDoorCutSegs
import Derived.Test.YtliiffpegfkpbabDoorL1Get
import Derived.Test.YtliiffpegfkpbabDoorTrimS
namespace Go.Proofs.YtliiffpegfkpbabDoor
open Go.RowKit
/-- what FrameGet answers. -/
def SG (s : ByteArray) (w : World) (e : Ending) (w' : World) : Prop :=
  ∃ A cap, e = .returned (.tuple #[.slice A (fg s).2.length cap, .int .i64 (fg s).1]) ∧ Strs w' A (fg s).2 ∧ Below w.heap.size w w'
/-- the same, the list being new. -/
def SGo (s : ByteArray) (w : World) (e : Ending) (w' : World) : Prop :=
  ∃ A cap, e = .returned (.tuple #[.slice A (fg s).2.length cap, .int .i64 (fg s).1]) ∧ Strs w' A (fg s).2 ∧ (∀ a, A = some a → 0 < (fg s).2.length → w.heap.size ≤ a.block) ∧ Below w.heap.size w w'
theorem SGo.none {s : ByteArray} {w w' : World} {c : Int} {A : Option Addr} {cap : Nat} (h : fg s = (c, [])) (hb : Below w.heap.size w w') : SGo s w (.returned (.tuple #[.slice A 0 cap, .int .i64 c])) w' :=
  ⟨A, cap, by rw [h]; rfl, by rw [h]; exact Strs.nil _ _, fun _ _ hl => (by rw [h] at hl; exact absurd hl (Nat.lt_irrefl 0)), hb⟩
theorem l1Get_gN (s : ByteArray) (k : Nat) (w : World) (hs : s.size ≤ maxLen) (hk : k ≤ 100) :
    Calls Tryd.prog 42 #[.string s, .int .i64 (4 + 4 * (k : Int)), .int .i64 4] w fun e w' => e = .returned (.int .i64 (gN s.data.toList (k + 1) : Nat)) ∧ w = w' := by
  have h := l1Get_any s (4 + 4 * (k : Int)) 4 w hs (by omega) (by omega) (by decide) (by decide)
  have hl := gN_lt s.data.toList (k + 1)
  have e : wrap64 ((leN s.data.toList (4 + 4 * (k : Int)).toNat (4 : Int).toNat : Nat) : Int) = ((gN s.data.toList (k + 1) : Nat) : Int) := by
    have e2 : leN s.data.toList (4 + 4 * (k : Int)).toNat (4 : Int).toNat = gN s.data.toList (k + 1) := by rw [gN]; congr 1; omega
    rw [e2, wrap64_small _ (by omega)]
  rw [e] at h
  exact h
theorem szs_mono (l : List UInt8) (k : Nat) : ∀ n, k ≤ n → (szs l k).sum ≤ (szs l n).sum := by
  intro n hn
  induction n with
  | zero => obtain rfl : k = 0 := by omega
            exact Nat.le_refl _
  | succ m ih =>
    by_cases hk : k = m + 1
    · rw [hk]; exact Nat.le_refl _
    · have := ih (by omega)
      rw [szs_sum_succ]; omega
theorem strs_own {w : World} {base n cap : Nat} {e : TypeId} {A : Option Addr} {ss : List ByteArray} (h : w.ownsRow base e 1 (.slice A n cap) n (ss.map Value.string)) (hs : ∀ s ∈ ss, s.size ≤ maxLen) : Strs w A ss := by
  rcases h.2 with ⟨_, h0⟩ | ⟨g, cap, _, he, _⟩
  · have : ss = [] := by
      have h1 := h.1
      rw [h0] at h1
      exact List.eq_nil_of_length_eq_zero (by simpa using h1)
    subst this
    exact Strs.nil _ _
  · cases he
    refine ⟨hs, .inr ⟨_, rfl, (h.lt g rfl).2, fun i hi => ?_⟩⟩
    exact h.cells rfl i _ (by simp [List.getElem?_eq_getElem hi])
set_option maxRecDepth 100000 in
set_option maxHeartbeats 4000000 in
theorem specFrameGet_own (s : ByteArray) (w : World) (hs : s.size ≤ 1099511627776) :
    Calls Tryd.prog 15 #[.string s] w (SGo s w) := by
  have hpost : ∃ P : Ending → World → Prop, P = SGo s w := ⟨_, rfl⟩
  obtain ⟨P, hP⟩ := hpost
  rw [← hP]
  have HP := Lib.hid hP
  clear hP
  obtain ⟨i0, hi, hz0, hz1, hz2⟩ := info_parts infoStr
  by_cases h4 : s.size < 4
  · have h4' : ((s.size : Nat) : Int) < 4 := by omega
    have hf := fg0 h4
    have HF := Lib.hid hf
    clear hf
    go_enter Tryd.func15, Tryd.ntmps15
    go_wp2
    rw [HP.out]
    exact SGo.none HF.out ((Below.refl _ _).alloc (Nat.le_refl _) _)
  have h4 : 4 ≤ s.size := by omega
  have h4' : ¬ ((s.size : Nat) : Int) < 4 := by omega
  have hg := gN_lt s.data.toList 0
  obtain ⟨n, hn⟩ : ∃ n, gN s.data.toList 0 + 1 = n := ⟨_, rfl⟩
  have hn1 : 1 ≤ n := by omega
  have HN := Lib.hid hn
  have hGN : Hid (∀ w : World, Calls Tryd.prog 42 #[.string s, .int .i64 0, .int .i64 4] w fun e w' => e = .returned (.int .i64 ((n : Int) - 1)) ∧ w = w') := Lib.hid (fun w => by
    have := l1Get_any s 0 4 w (by unfold maxLen; omega) (by decide) (by decide) (by decide) (by decide)
    have e : wrap64 ((leN s.data.toList (0 : Int).toNat (4 : Int).toNat : Nat) : Int) = (n : Int) - 1 := by
      have e2 : leN s.data.toList (0 : Int).toNat (4 : Int).toNat = gN s.data.toList 0 := rfl
      rw [e2, wrap64_small _ (by omega)]; omega
    rw [e] at this
    exact this)
  have hnl : n ≤ 4294967296 := by omega
  clear hg hn
  go_enter Tryd.func15, Tryd.ntmps15
  go_wp2_with fail
  refine (hGN.out _).mono ?_
  rintro e w' ⟨rfl, rfl⟩
  have HB1 : Hid (Below w.heap.size w (w.alloc (.cells #[] 9))) := Lib.hid ((Below.refl _ _).alloc (Nat.le_refl _) _)
  by_cases h6 : 6 < n
  · have h6' : (6 : Int) < (n : Int) - 1 + 1 := by omega
    go_wp2
    rw [HP.out]
    exact SGo.none (fg1 HN.out h4 h6) HB1.out
  have h6' : ¬ (6 : Int) < (n : Int) - 1 + 1 := by omega
  have h6 : n ≤ 6 := by omega
  obtain ⟨W1, hW1⟩ : ∃ W1, w.alloc (.cells #[] 9) = W1 := ⟨_, rfl⟩
  rw [hW1] at HB1 ⊢
  have HW1 := Lib.hid hW1
  clear hW1
  obtain ⟨hd, hhd⟩ : ∃ hd, fgHead n = hd := ⟨_, rfl⟩
  have hhd2 : (n / 2 + 1) * 8 = hd := hhd
  have HHD := Lib.hid hhd
  have hdl : hd ≤ 32 ∧ 8 ≤ hd := by omega
  obtain ⟨hdl, hd8⟩ := hdl
  have hpar : ((4 + 4 * (n : Int)) % 8 != 0) = true ∧ 4 + 4 * (n : Int) + 4 = (hd : Int) ∨ ((4 + 4 * (n : Int)) % 8 != 0) = false ∧ 4 + 4 * (n : Int) = (hd : Int) := by
    by_cases hp : n % 2 = 0
    · left
      exact ⟨by simp; omega, by omega⟩
    · right
      exact ⟨by simp; omega, by omega⟩
  have h8n : 4 + 4 * (n : Int) ≤ (hd : Int) := by omega
  clear hhd hhd2
  by_cases hsh : s.size < hd
  · rcases hpar with ⟨hp1, hp2⟩ | ⟨hp1, hp2⟩
    all_goals
      have h7 : ((s.size : Nat) : Int) < (hd : Int) := by omega
      rw [← hp2] at h7
      clear hp2
      go_wp2
      rw [HP.out]
      exact SGo.none (fg2 HN.out h4 h6 (by rw [HHD.out]; exact hsh)) HB1.out
  have hsh : hd ≤ s.size := by omega
  have hzz : zerB (s.extract (4 + 4 * n) hd).data.toList = fgZ s.data.toList n := by
    rw [zerB, fgZ, HHD.out, Lib.extract_data, List.drop_take, show 4 * (n + 1) = 4 + 4 * n by omega]
  have HZZ := Lib.hid hzz
  clear hzz
  rcases hpar with ⟨hp1, hp2⟩ | ⟨hp1, hp2⟩
  all_goals
    have h7 : ¬ ((s.size : Nat) : Int) < (hd : Int) := by omega
    rw [← hp2] at h7
    have HP2 := Lib.hid hp2
    clear hp2
    go_wp2_with fail
    rw [HP2.out] at h7 ⊢
    have hb7 : decide (((s.size : Nat) : Int) < (hd : Int)) = false := decide_eq_false (by omega)
    rw [hb7]
    clear hp1 hb7 h7
    go_loopw [7, 8] (fun t i wr => ∃ k : Nat, k ≤ n ∧ i = .int .i64 k ∧ t = .int .i64 ((szs s.data.toList k).sum : Nat) ∧ W1 = wr) (fun _ i _ => n - (intOf i).toNat)
    case atStart => exact ⟨0, by omega, rfl, rfl, rfl⟩
    case round =>
      obtain ⟨k, hk, rfl, rfl, rfl⟩ := hrel
      have hsl := szs_sum_lt s.data.toList k
      by_cases hk1 : k < n
      · have hgl := gN_lt s.data.toList (k + 1)
        have hsum := szs_sum_succ s.data.toList k
        have HSu := Lib.hid hsum
        clear hsum
        generalize (szs s.data.toList k).sum = T at hsl HSu ⊢
        go_wp2_with fail
        refine (l1Get_gN s k _ (by unfold maxLen; omega) (by omega)).mono ?_
        rintro e w' ⟨rfl, rfl⟩
        generalize gN s.data.toList (k + 1) = G at hgl HSu ⊢
        go_wp2
        go_roundw
        case rel => exact ⟨k + 1, by omega, by go_num, by rw [HSu.out]; go_num, trivial⟩
        case measure => simp [intOf]; omega
      · obtain rfl : k = n := by omega
        obtain ⟨T, hT⟩ : ∃ T, (szs s.data.toList k).sum = T := ⟨_, rfl⟩
        rw [hT] at hsl ⊢
        have HT := Lib.hid hT
        clear hT
        by_cases hbig : 200 < T
        · have h9 : (200 : Int) < (T : Int) := by omega
          go_wp2
          rw [HP.out]
          exact SGo.none (fg3 HN.out h4 h6 (by rw [HHD.out]; exact hsh) (.inr (by rw [HT.out]; exact hbig))) HB1.out
        have hbig : T ≤ 200 := by omega
        have h9 : ¬ (200 : Int) < (T : Int) := by omega
        have hsI : ((hd : Nat) : Int) ≤ ((s.size : Nat) : Int) := by omega
        go_wp2_with fail
        refine (l1Zero_any _ _ (by unfold maxLen; simp; omega)).mono ?_
        rintro e w' ⟨rfl, rfl⟩
        rw [HZZ.out]
        cases hz : fgZ s.data.toList k
        · have HZ := Lib.hid hz
          clear hz
          go_wp2
          rw [HP.out]
          exact SGo.none (fg3 HN.out h4 h6 (by rw [HHD.out]; exact hsh) (.inl HZ.out)) HB1.out
        have HZ := Lib.hid hz
        clear hz
        by_cases hlt : s.size < hd + 8 * T
        · have h10 : ((s.size : Nat) : Int) < (hd : Int) + 8 * (T : Int) := by omega
          go_wp2
          rw [HP.out]
          exact SGo.none (fg4 HN.out h4 h6 (by rw [HHD.out]; exact hsh) HZ.out (by rw [HT.out]; exact hbig) (by rw [HHD.out, HT.out]; exact hlt)) HB1.out
        have h10 : ¬ ((s.size : Nat) : Int) < (hd : Int) + 8 * (T : Int) := by omega
        go_wp2_with fail
        have hb10 : decide (((s.size : Nat) : Int) < (hd : Int) + 8 * (T : Int)) = false := decide_eq_false (by omega)
        rw [hb10]
        clear hb10 h10 h9 hsl
        have hlT : hd + 8 * T ≤ s.size := by omega
        have HO0 : Hid ((W1.alloc (.cells #[] 9)).ownsRow W1.heap.size 9 1 (.slice (some ⟨W1.heap.size, 0, none⟩) 0 0) 0 []) := Lib.hid (World.ownsRow_made W1 #[] 0 (Nat.le_refl _) (by decide) rfl)
        have HB2 : Hid (Below w.heap.size w (W1.alloc (.cells #[] 9))) := Lib.hid (HB1.out.alloc HB1.out.size _)
        have hWsz := HB1.out.size
        go_loopw [9, 10, 11] (fun v at_ i wr => ∃ j : Nat, j ≤ k ∧ i = .int .i64 j ∧ at_ = .int .i64 ((hd + 8 * (szs s.data.toList j).sum : Nat) : Int) ∧ Hid (wr.ownsRow W1.heap.size 9 1 v j ((cutB s hd (szs s.data.toList j)).map Value.string)) ∧ Hid (Below w.heap.size w wr) ∧ Hid (W1.heap.size ≤ wr.heap.size)) (fun _ _ i _ => k - (intOf i).toNat)
        case atStart => exact ⟨0, by omega, rfl, rfl, HO0, HB2, by simp [Hid]⟩
        case round =>
          obtain ⟨j, hj, rfl, rfl, HO, HB, HSZ⟩ := hrel
          obtain ⟨A2, cp, rfl⟩ := own_shape HO.out
          have hm := szs_mono s.data.toList j k hj
          rw [HT.out] at hm
          by_cases hj1 : j < k
          · have hgl := gN_lt s.data.toList (j + 1)
            have hm1 := szs_mono s.data.toList (j + 1) k hj1
            have hsum := szs_sum_succ s.data.toList j
            have hst := szs_succ s.data.toList j
            have hct := cutB_snoc s (szs s.data.toList j) hd (gN s.data.toList (j + 1))
            rw [← hst] at hct
            rw [HT.out] at hm1
            obtain ⟨U, hU⟩ : ∃ U, (szs s.data.toList j).sum = U := ⟨_, rfl⟩
            rw [hU] at hsum hm hct ⊢
            have hG := l1Get_gN s j
            obtain ⟨G, hGG⟩ : ∃ G, gN s.data.toList (j + 1) = G := ⟨_, rfl⟩
            rw [hGG] at hgl hsum hct hG
            have HG := Lib.hid hG
            have HSu := Lib.hid hsum
            have HCT := Lib.hid hct
            have hUG : U + G ≤ T := by omega
            have hsz1 := HB.out.size
            have hsz2 := HSZ.out
            clear hsum hct hG hst hU hGG hm1
            go_wp2_with fail
            refine (HG.out _ (by unfold maxLen; omega) (by omega)).mono ?_
            rintro e w' ⟨rfl, rfl⟩
            go_wp2_with (at_builtin; go_must (refine wpList_append_own _ rfl (.tmp 83) (.tmp 90) 23 rfl W1.heap.size 9 i0 (.string ByteArray.empty) 1 16 Tryd.underlying23 hi hz0 hz1 hz2 rfl (by decide) _ _ _ rfl (HO.out.alloc _) ⟨wr.heap.size, 0, none⟩ 1 1 [.string (s.extract (hd + 8 * U) (hd + 8 * U + 8 * G))] rfl rfl (cell_one_new _ _ _) (by simp [Value.oneCell']) (by unfold maxLen; omega) (by omega) (by simp <;> omega) ?_); intro v' wn hown' hgrow _)
            have HON := Lib.hid (show wn.ownsRow W1.heap.size 9 1 v' (j + 1) ((cutB s hd (szs s.data.toList (j + 1))).map Value.string) by rw [HCT.out, List.map_append]; exact hown')
            have hbn : Below W1.heap.size wr wn := below_append (Below.refl _ _) hsz2 HO.out hgrow
            have HBN := Lib.hid (HB.out.trans (hbn.mono hWsz))
            have HSN := Lib.hid (Nat.le_trans hsz2 hbn.size)
            clear hgrow hown' hbn
            go_wp2
            go_roundw
            case rel => exact ⟨j + 1, by omega, by go_num, by rw [HSu.out]; go_num, HON, HBN, HSN⟩
            case measure => simp [intOf]; omega
          · obtain rfl : j = k := by omega
            have hf := fg5 HN.out h4 h6 (by rw [HHD.out]; exact hsh) HZ.out (by rw [HT.out]; exact hbig) (by rw [HHD.out, HT.out]; exact hlT)
            rw [HHD.out, HT.out] at hf
            have HF := Lib.hid hf
            rw [HT.out]
            clear hf hm
            go_wp2
            rw [HP.out]
            have hl : (fg s).2.length = j := by rw [HF.out]; show (cutB _ _ _).length = _; rw [cutB_length, szs_length]
            refine ⟨A2, cp, by rw [hl, HF.out]; rfl, ?_, fun a ha hp => ?_, HB.out⟩
            rotate_left
            · subst ha
              have := (HO.out.lt a.block rfl).1
              omega
            have h3 := HO.out
            have h5 : (fg s).2 = cutB s hd (szs s.data.toList j) := by rw [HF.out]
            rw [h5]
            exact strs_own h3 (fun x hx => by have := cutB_size s _ _ x hx; unfold maxLen; omega)
theorem specFrameGet_any (s : ByteArray) (w : World) (hs : s.size ≤ 1099511627776) :
    Calls Tryd.prog 15 #[.string s] w (SG s w) :=
  (specFrameGet_own s w hs).mono fun e w' ⟨A, cap, h1, h2, _, h4⟩ => ⟨A, cap, h1, h2, h4⟩
end Go.Proofs.YtliiffpegfkpbabDoor
