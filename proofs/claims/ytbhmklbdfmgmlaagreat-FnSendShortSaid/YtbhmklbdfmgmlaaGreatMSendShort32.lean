/- Texts of the proof of the law FnSendShort, side by side: part 32. -/
import Derived.Test.YtbhmklbdfmgmlaaGreatShelf
import Derived.Stop.BytesEq
import Derived.Deep.DeepMust
import Derived.Test.YtbhmklbdfmgmlaaGreatMSendShort00
import Derived.Test.YtbhmklbdfmgmlaaGreatMSendShort01
import Derived.Test.YtbhmklbdfmgmlaaGreatMSendShort02
import Derived.Test.YtbhmklbdfmgmlaaGreatMSendShort03
import Derived.Test.YtbhmklbdfmgmlaaGreatMSendShort04
import Derived.Test.YtbhmklbdfmgmlaaGreatMSendShort05
import Derived.Test.YtbhmklbdfmgmlaaGreatMSendShort06
import Derived.Test.YtbhmklbdfmgmlaaGreatMSendShort07
import Derived.Test.YtbhmklbdfmgmlaaGreatMSendShort08
import Derived.Test.YtbhmklbdfmgmlaaGreatMSendShort09
import Derived.Test.YtbhmklbdfmgmlaaGreatMSendShort10
import Derived.Test.YtbhmklbdfmgmlaaGreatMSendShort11
import Derived.Test.YtbhmklbdfmgmlaaGreatMSendShort12
import Derived.Test.YtbhmklbdfmgmlaaGreatMSendShort13
import Derived.Test.YtbhmklbdfmgmlaaGreatMSendShort14
import Derived.Test.YtbhmklbdfmgmlaaGreatMSendShort15
import Derived.Test.YtbhmklbdfmgmlaaGreatMSendShort16
import Derived.Test.YtbhmklbdfmgmlaaGreatMSendShort17
import Derived.Test.YtbhmklbdfmgmlaaGreatMSendShort18
import Derived.Test.YtbhmklbdfmgmlaaGreatMSendShort19
import Derived.Test.YtbhmklbdfmgmlaaGreatMSendShort20
import Derived.Test.YtbhmklbdfmgmlaaGreatMSendShort21
import Derived.Test.YtbhmklbdfmgmlaaGreatMSendShort22
import Derived.Test.YtbhmklbdfmgmlaaGreatMSendShort23
import Derived.Test.YtbhmklbdfmgmlaaGreatMSendShort24
import Derived.Test.YtbhmklbdfmgmlaaGreatMSendShort25
import Derived.Test.YtbhmklbdfmgmlaaGreatMSendShort26
import Derived.Test.YtbhmklbdfmgmlaaGreatMSendShort27
import Derived.Test.YtbhmklbdfmgmlaaGreatMSendShort28
import Derived.Test.YtbhmklbdfmgmlaaGreatMSendShort29
import Derived.Test.YtbhmklbdfmgmlaaGreatMSendShort30
import Derived.Test.YtbhmklbdfmgmlaaGreatMSendShort31
/- What was packed is unpacked; how long it is; words packed one behind the other. No Go text. -/
namespace Go.Proofs.YtbhmklbdfmgmlaaGreat
theorem maskN_lt : ∀ l : List UInt8, maskN l < 2 ^ l.length
  | [] => by simp [maskN]
  | b :: r => by
    have := maskN_lt r
    rw [maskN, List.length_cons, Nat.pow_succ]
    split <;> omega
theorem maskN_c0 (r : List UInt8) : maskN (0 :: r) = 2 * maskN r := by simp [maskN]
theorem maskN_c1 {b : UInt8} (r : List UInt8) (h : b ≠ 0) : maskN (b :: r) = 1 + 2 * maskN r := by simp [maskN, h]
theorem nz_c0 (r : List UInt8) : nzL (0 :: r) = nzL r := by simp [nzL]
theorem nz_c1 {b : UInt8} (r : List UInt8) (h : b ≠ 0) : nzL (b :: r) = b :: nzL r := by simp [nzL, h]
theorem popN_mask : ∀ l : List UInt8, popN l.length (maskN l) = (nzL l).length
  | [] => rfl
  | b :: r => by
    have ih := popN_mask r
    rw [List.length_cons, popN]
    by_cases h : b = 0
    · subst h
      rw [maskN_c0, nz_c0, show (2 * maskN r) % 2 = 0 by omega, show (2 * maskN r) / 2 = maskN r by omega, ih]; omega
    · rw [maskN_c1 r h, nz_c1 r h, show (1 + 2 * maskN r) % 2 = 1 by omega, show (1 + 2 * maskN r) / 2 = maskN r by omega, ih, List.length_cons]; omega
theorem spread_mask : ∀ l : List UInt8, spreadN l.length (maskN l) (nzL l) = l
  | [] => rfl
  | b :: r => by
    have ih := spread_mask r
    rw [List.length_cons, spreadN]
    by_cases h : b = 0
    · subst h
      rw [maskN_c0, nz_c0, if_pos (by omega), show (2 * maskN r) / 2 = maskN r by omega, ih]
    · rw [maskN_c1 r h, nz_c1 r h, if_neg (by omega), show (1 + 2 * maskN r) / 2 = maskN r by omega, List.headD_cons, List.tail_cons, ih]
theorem maskN_zero : ∀ l : List UInt8, maskN l = 0 ↔ zerL l = true
  | [] => by simp [maskN, zerL]
  | b :: r => by
    have ih := maskN_zero r
    rw [zerL, List.all_cons, Bool.and_eq_true, ← zerL, ← ih]
    by_cases h : b = 0
    · subst h
      rw [maskN_c0]
      simp only [beq_self_eq_true, true_and]
      omega
    · rw [maskN_c1 r h]
      simp [h]
theorem maskN_full : ∀ l : List UInt8, maskN l + 1 = 2 ^ l.length ↔ fullL l = true
  | [] => by simp [maskN, fullL]
  | b :: r => by
    have ih := maskN_full r
    have hlt := maskN_lt r
    rw [maskN, fullL, List.all_cons, Bool.and_eq_true, ← fullL, ← ih, List.length_cons, Nat.pow_succ]
    by_cases h : b = 0
    · rw [if_pos h]; simp [h]; omega
    · rw [if_neg h]; simp [h]; omega
theorem mask8_full {l : List UInt8} (h : l.length = 8) : maskN l = 255 ↔ fullL l = true := by
  rw [← maskN_full, h]; omega
theorem nz_full {l : List UInt8} (h : fullL l = true) : nzL l = l := by
  rw [nzL, List.filter_eq_self]
  simpa [fullL] using h
theorem zer_rep {l : List UInt8} (h : zerL l = true) : l = List.replicate l.length 0 := by
  rw [List.eq_replicate_iff]
  exact ⟨rfl, by simpa [zerL] using h⟩
theorem zer_not_full {l : List UInt8} (h : zerL l = true) (h8 : l.length = 8) : fullL l = false := by
  rw [zer_rep h, h8]; rfl
/-- words: all of eight bytes. -/
def Wds (ws : List (List UInt8)) : Prop := ∀ w ∈ ws, w.length = 8
theorem Wds.drop {ws : List (List UInt8)} (h : Wds ws) (n : Nat) : Wds (ws.drop n) := fun w hw => h w (List.mem_of_mem_drop hw)
theorem Wds.take {ws : List (List UInt8)} (h : Wds ws) (n : Nat) : Wds (ws.take n) := fun w hw => h w (List.mem_of_mem_take hw)
theorem Wds.app {a b : List (List UInt8)} (h : Wds a) (k : Wds b) : Wds (a ++ b) := fun w hw => (List.mem_append.1 hw).elim (h w) (k w)
theorem flat_length {ws : List (List UInt8)} (h : Wds ws) : ws.flatten.length = 8 * ws.length := by
  induction ws with
  | nil => rfl
  | cons w r ih =>
    rw [List.flatten_cons, List.length_append, h w (by simp), ih (fun x hx => h x (by simp [hx])), List.length_cons]; omega
theorem run_all (p : List UInt8 → Bool) (r : List (List UInt8)) : ∀ w ∈ r.take (runN p r), p w = true := by
  intro w hw
  have e : r.take (runN p r) = (r.take 255).takeWhile p := by
    have hpre : (r.take 255).takeWhile p <+: r := (List.takeWhile_prefix p).trans (List.take_prefix 255 r)
    rw [List.prefix_iff_eq_take] at hpre
    exact hpre.symm
  rw [e] at hw
  have h := List.all_takeWhile (p := p) (l := r.take 255)
  exact (List.all_eq_true.1 h) w hw
theorem zer_flat {ws : List (List UInt8)} (h : Wds ws) (hz : ∀ w ∈ ws, zerL w = true) : ws.flatten = List.replicate (8 * ws.length) 0 := by
  induction ws with
  | nil => rfl
  | cons w r ih =>
    rw [List.flatten_cons, ih (fun x hx => h x (by simp [hx])) (fun x hx => hz x (by simp [hx])), zer_rep (hz w (by simp)), h w (by simp), List.replicate_append_replicate, List.length_cons]
    congr 1; omega
theorem ofNat_255 (n : Nat) (h : n ≤ 255) : (UInt8.ofNat n).toNat = n := by rw [UInt8.toNat_ofNat']; omega
theorem step_zero (n : Nat) (h : n ≤ 255) (r : List UInt8) : stepU (0 :: UInt8.ofNat n :: r) = some (List.replicate (8 * (n + 1)) 0, r) := by
  rw [stepU, if_neg (by simp [popN]), if_pos rfl]
  simp [ofNat_255 n h]
theorem pop_255 : popN 8 255 = 8 := by decide
theorem step_full (w : List UInt8) (h8 : w.length = 8) (n : Nat) (h : n ≤ 255) (x r : List UInt8) (hx : x.length = 8 * n) : stepU (255 :: (w ++ (UInt8.ofNat n :: (x ++ r)))) = some (w ++ x, r) := by
  have e : (255 : UInt8).toNat = 255 := rfl
  have d8 : (w ++ (UInt8.ofNat n :: (x ++ r))).drop 8 = UInt8.ofNat n :: (x ++ r) := by rw [List.drop_append_of_le_length (by omega), List.drop_of_length_le (by omega), List.nil_append]
  have d9 : (w ++ (UInt8.ofNat n :: (x ++ r))).drop 9 = x ++ r := by rw [show (9 : Nat) = 8 + 1 from rfl, ← List.drop_drop, d8]; rfl
  rw [stepU, e, pop_255, if_neg (by simp; omega), if_neg (by decide), if_pos rfl, d8, d9, List.headD_cons, ofNat_255 n h, if_neg (by simp; omega), List.take_append_of_le_length (by omega), List.take_of_length_le (by omega), List.take_append_of_le_length (by omega), List.take_of_length_le (by omega), List.drop_append_of_le_length (by omega), List.drop_of_length_le (by omega), List.nil_append]
theorem step_some (w : List UInt8) (h8 : w.length = 8) (hz : zerL w = false) (hf : fullL w = false) (r : List UInt8) : stepU (UInt8.ofNat (maskN w) :: (nzL w ++ r)) = some (w, r) := by
  have hlt := maskN_lt w
  rw [h8] at hlt
  have e := ofNat_255 (maskN w) (by omega)
  have hp := popN_mask w
  have hs := spread_mask w
  rw [h8] at hp hs
  have h0 : UInt8.ofNat (maskN w) ≠ 0 := fun h => by
    have := congrArg UInt8.toNat h
    rw [e] at this
    have := (maskN_zero w).1 this
    rw [hz] at this; cases this
  have h255 : UInt8.ofNat (maskN w) ≠ 255 := fun h => by
    have := congrArg UInt8.toNat h
    rw [e] at this
    have := (mask8_full h8).1 this
    rw [hf] at this; cases this
  rw [stepU, e, hp, if_neg (by simp), if_neg h0, if_neg h255, List.take_append_of_le_length (by omega), List.take_of_length_le (by omega), List.drop_append_of_le_length (by omega), List.drop_of_length_le (by omega), hs, List.nil_append]
/-- words that were packed are unpacked. -/
theorem unW_packN : ∀ (k : Nat) (ws : List (List UInt8)), ws.length ≤ k → Wds ws → unW (packW ws) = some ws.flatten
  | _, [], _, _ => by rw [packW]; rfl
  | 0, _ :: _, h, _ => by simp at h
  | k + 1, w :: r, hk, hw => by
    have h8 := hw w (by simp)
    have hr : Wds r := fun x hx => hw x (by simp [hx])
    have hkr : r.length ≤ k := by simpa using hk
    rw [packW]
    cases hz : zerL w
    · cases hf : fullL w
      · rw [if_neg (by simp), if_neg (by simp), unW_step (step_some w h8 hz hf _), unW_packN k r hkr hr]
        simp
      · obtain ⟨n1, n2⟩ := runN_le fewL r
        have hx := flat_length (hr.take (runN fewL r))
        rw [List.length_take, Nat.min_eq_left n1] at hx
        rw [if_neg (by simp), if_pos rfl, unW_step (step_full w h8 _ n2 _ _ hx), unW_packN k _ (by simp; omega) (hr.drop _)]
        rw [Option.map_some, List.append_assoc, ← List.flatten_append, List.take_append_drop, List.flatten_cons]
    · obtain ⟨n1, n2⟩ := runN_le zerL r
      rw [if_pos rfl, unW_step (step_zero _ n2 _), unW_packN k _ (by simp; omega) (hr.drop _)]
      have h1 : List.replicate (8 * (runN zerL r + 1)) (0 : UInt8) = w ++ (r.take (runN zerL r)).flatten := by
        rw [zer_flat (hr.take _) (run_all zerL r), List.length_take, Nat.min_eq_left n1, zer_rep hz, h8, List.replicate_append_replicate]
        congr 1; omega
      rw [Option.map_some, h1, List.append_assoc, ← List.flatten_append, List.take_append_drop, List.flatten_cons]
theorem unW_pack {ws : List (List UInt8)} (h : Wds ws) : unW (packW ws) = some ws.flatten := unW_packN ws.length ws (Nat.le_refl _) h
theorem nz_le (w : List UInt8) : (nzL w).length ≤ w.length := List.length_filter_le _ _
theorem pack_lenN : ∀ (k : Nat) (ws : List (List UInt8)), ws.length ≤ k → Wds ws → (packW ws).length ≤ 10 * ws.length
  | _, [], _, _ => by rw [packW]; simp
  | 0, _ :: _, h, _ => by simp at h
  | k + 1, w :: r, hk, hw => by
    have h8 := hw w (by simp)
    have hr : Wds r := fun x hx => hw x (by simp [hx])
    have hkr : r.length ≤ k := by simpa using hk
    rw [packW]
    split
    · obtain ⟨n1, n2⟩ := runN_le zerL r
      have := pack_lenN k (r.drop (runN zerL r)) (by simp; omega) (hr.drop _)
      simp at this ⊢; omega
    · split
      · obtain ⟨n1, n2⟩ := runN_le fewL r
        have := pack_lenN k (r.drop (runN fewL r)) (by simp; omega) (hr.drop _)
        have hx := flat_length (hr.take (runN fewL r))
        rw [List.length_take, Nat.min_eq_left n1] at hx
        rw [List.length_cons, List.length_append, List.length_cons, List.length_append, hx, h8, List.length_cons]
        rw [List.length_drop] at this
        omega
      · have := pack_lenN k r hkr hr
        have h2 := nz_le w
        rw [List.length_cons, List.length_append, List.length_cons]; omega
theorem pack_len {ws : List (List UInt8)} (h : Wds ws) : (packW ws).length ≤ 10 * ws.length := pack_lenN ws.length ws (Nat.le_refl _) h
theorem run_whole (p : List UInt8 → Bool) (r : List (List UInt8)) (h : r.length ≤ 255) (hp : ∀ w ∈ r, p w = true) : runN p r = r.length :=
  runN_eq (Nat.le_refl _) h (fun j hj _ => hp _ (List.getElem_mem hj)) (.inr (.inl rfl))
/-- words of noughts. -/
theorem pack_zero {ws : List (List UInt8)} (h1 : 1 ≤ ws.length) (h2 : ws.length ≤ 256) (hz : ∀ w ∈ ws, zerL w = true) : packW ws = [0, UInt8.ofNat (ws.length - 1)] := by
  cases ws with
  | nil => simp at h1
  | cons w r =>
    rw [packW, if_pos (hz w (by simp)), run_whole zerL r (by simp at h2; omega) (fun x hx => hz x (by simp [hx])), List.drop_length, packW]
    simp
/-- a run that ends before the words do goes on so, whatever stands behind. -/
theorem tw_next (p : List UInt8 → Bool) : ∀ (l : List (List UInt8)) (n : Nat) (h : n < l.length), (l.takeWhile p).length = n → p l[n] = false
  | x :: r, n, h, he => by
    rw [List.takeWhile_cons] at he
    cases hp : p x
    · rw [hp] at he
      simp at he
      subst he
      simpa using hp
    · rw [hp, if_pos rfl, List.length_cons] at he
      obtain ⟨m, rfl⟩ : ∃ m, n = m + 1 := ⟨n - 1, by omega⟩
      have := tw_next p r m (by simpa using h) (by omega)
      simpa using this
theorem run_stop {p : List UInt8 → Bool} {r : List (List UInt8)} (b : List (List UInt8)) (h : runN p r < r.length) (h255 : r.length ≤ 255) : runN p (r ++ b) = runN p r := by
  obtain ⟨n1, n2⟩ := runN_le p r
  have hall := run_all p r
  refine runN_eq (by simp; omega) n2 (fun j hj hn => ?_) (.inr (.inr ⟨by simp; omega, ?_⟩))
  · rw [List.getElem_append_left (by omega)]
    apply hall
    rw [List.mem_take_iff_getElem]
    exact ⟨j, by omega, rfl⟩
  · rw [List.getElem_append_left h]
    have e : r.take 255 = r := List.take_of_length_le (by omega)
    exact tw_next p r _ h (by rw [runN, e])
theorem run_cons {p : List UInt8 → Bool} {w : List UInt8} {r : List (List UInt8)} (h : r.length < 255) : runN p (w :: r) = if p w = true then runN p r + 1 else 0 := by
  have e1 : (w :: r).take 255 = w :: r := List.take_of_length_le (by simp; omega)
  have e2 : r.take 255 = r := List.take_of_length_le (by omega)
  unfold runN
  rw [e1, e2, List.takeWhile_cons]
  split <;> simp
theorem run_app {p : List UInt8 → Bool} {r b : List (List UInt8)} (h : runN p r = r.length) (h255 : (r ++ b).length ≤ 255) : runN p (r ++ b) = r.length + runN p b := by
  have hall := run_all p r
  rw [h, List.take_length] at hall
  have e1 : (r ++ b).take 255 = r ++ b := List.take_of_length_le (by omega)
  have e2 : b.take 255 = b := List.take_of_length_le (by simp at h255; omega)
  unfold runN
  rw [e1, e2, List.takeWhile_append_of_pos hall, List.length_append]
theorem few_not_zer {w : List UInt8} (h8 : w.length = 8) (h : fewL w = true) : zerL w = false := by
  cases hz : zerL w
  · rfl
  · rw [zer_rep hz, h8] at h
    exact absurd h (by decide)
theorem filt_len (p : UInt8 → Bool) : ∀ l : List UInt8, (l.filter p).length + (l.filter fun x => !p x).length = l.length
  | [] => rfl
  | x :: r => by
    have := filt_len p r
    rw [List.filter_cons, List.filter_cons]
    cases hp : p x <;> simp [hp] <;> omega
theorem few_nz {w : List UInt8} (h8 : w.length = 8) (h : fewL w = true) (hf : fullL w = false) : (nzL w).length = 7 := by
  have h1 : (w.filter (· == 0)).length ≤ 1 := by simpa [fewL] using h
  have h2 : nzL w = w.filter (fun x => !(x == 0)) := rfl
  have h3 := filt_len (· == 0) w
  rw [← h2] at h3
  by_cases h7 : (w.filter (· == 0)).length = 0
  · exfalso
    have e : w.filter (· == 0) = [] := List.eq_nil_of_length_eq_zero h7
    rw [List.filter_eq_nil_iff] at e
    have : fullL w = true := by rw [fullL, List.all_eq_true]; intro x hx; simpa using e x hx
    rw [this] at hf; cases hf
  · omega
/-- words with at most one nought at the beginning cost no less than as they are. -/
theorem pack_fewN : ∀ (k : Nat) (b : List (List UInt8)), b.length ≤ k → b.length ≤ 200 → Wds b → 8 * runN fewL b + (packW (b.drop (runN fewL b))).length ≤ (packW b).length
  | _, [], _, _, _ => by simp [runN]
  | 0, _ :: _, h, _, _ => by simp at h
  | k + 1, w :: r, hk, hl, hw => by
    have h8 := hw w (by simp)
    have hr : Wds r := fun x hx => hw x (by simp [hx])
    have hkr : r.length ≤ k := by simpa using hk
    have hlr : r.length ≤ 199 := by simp at hl; omega
    rw [run_cons (by omega)]
    split
    · rename_i hfew
      rw [List.drop_succ_cons]
      conv => rhs; rw [packW]
      rw [if_neg (by rw [few_not_zer h8 hfew]; simp)]
      split
      · obtain ⟨n1, n2⟩ := runN_le fewL r
        have hx := flat_length (hr.take (runN fewL r))
        rw [List.length_take, Nat.min_eq_left n1] at hx
        rw [List.length_cons, List.length_append, List.length_cons, List.length_append, hx, h8]
        omega
      · rename_i hf
        have := pack_fewN k r hkr (by omega) hr
        have h7 := few_nz h8 hfew (by simpa using hf)
        rw [List.length_cons, List.length_append, h7]
        omega
    · simp
theorem pack_few {b : List (List UInt8)} (hl : b.length ≤ 200) (hw : Wds b) : 8 * runN fewL b + (packW (b.drop (runN fewL b))).length ≤ (packW b).length := pack_fewN b.length b (Nat.le_refl _) hl hw
theorem pack_zer {b : List (List UInt8)} (hl : b.length ≤ 200) : (packW (b.drop (runN zerL b))).length ≤ (packW b).length := by
  cases b with
  | nil => simp [runN]
  | cons w r =>
    rw [run_cons (by simp at hl; omega)]
    split
    · rename_i hz
      rw [List.drop_succ_cons]
      conv => rhs; rw [packW]
      rw [if_pos hz, List.length_cons, List.length_cons]
      omega
    · simp
/-- words packed together are no longer than packed apart. -/
theorem pack_joinN : ∀ (k : Nat) (a b : List (List UInt8)), a.length ≤ k → a.length + b.length ≤ 200 → Wds a → Wds b → (packW (a ++ b)).length ≤ (packW a).length + (packW b).length
  | _, [], b, _, _, _, _ => by simp
  | 0, _ :: _, _, h, _, _, _ => by simp at h
  | k + 1, w :: r, b, hk, hl, hw, hb => by
    have h8 := hw w (by simp)
    have hr : Wds r := fun x hx => hw x (by simp [hx])
    have hkr : r.length ≤ k := by simpa using hk
    have hlr : r.length + b.length ≤ 199 := by simp at hl; omega
    rw [List.cons_append, packW, packW]
    split
    · obtain ⟨n1, n2⟩ := runN_le zerL r
      by_cases hlt : runN zerL r < r.length
      · rw [run_stop b hlt (by omega), List.drop_append_of_le_length (by omega)]
        have := pack_joinN k (r.drop (runN zerL r)) b (by simp; omega) (by simp; omega) (hr.drop _) hb
        simp only [List.length_cons]
        omega
      · have he : runN zerL r = r.length := by omega
        rw [run_app he (by simp; omega), he, List.drop_length, List.drop_append, List.drop_of_length_le (by omega), List.nil_append, show r.length + runN zerL b - r.length = runN zerL b by omega]
        have := pack_zer (b := b) (by omega)
        simp only [List.length_cons]
        omega
    · split
      · obtain ⟨n1, n2⟩ := runN_le fewL r
        by_cases hlt : runN fewL r < r.length
        · rw [run_stop b hlt (by omega), List.drop_append_of_le_length (by omega), List.take_append_of_le_length (by omega)]
          have := pack_joinN k (r.drop (runN fewL r)) b (by simp; omega) (by simp; omega) (hr.drop _) hb
          simp only [List.length_cons, List.length_append]
          omega
        · have he : runN fewL r = r.length := by omega
          obtain ⟨m1, m2⟩ := runN_le fewL b
          have hx := flat_length (hb.take (runN fewL b))
          rw [List.length_take, Nat.min_eq_left m1] at hx
          have hxr := flat_length hr
          rw [run_app he (by simp; omega), he, List.drop_length, List.take_length, List.drop_append, List.drop_of_length_le (by omega), List.nil_append, List.take_append, List.take_of_length_le (by omega), show r.length + runN fewL b - r.length = runN fewL b by omega, List.flatten_append]
          have := pack_few (b := b) (by omega) hb
          simp only [List.length_cons, List.length_append, hx, hxr]
          omega
      · have := pack_joinN k r b hkr (by omega) hr hb
        simp only [List.length_cons, List.length_append]
        omega
theorem pack_join {a b : List (List UInt8)} (hl : a.length + b.length ≤ 200) (ha : Wds a) (hb : Wds b) : (packW (a ++ b)).length ≤ (packW a).length + (packW b).length := pack_joinN a.length a b (Nat.le_refl _) hl ha hb
/-- what is unpacked is words. -/
theorem stepU_words {l o r : List UInt8} (h : stepU l = some (o, r)) : o.length % 8 = 0 := by
  cases l with
  | nil => simp [stepU] at h
  | cons t s =>
    rw [stepU] at h
    split at h
    · cases h
    · split at h
      · split at h
        · cases h
        · simp only [Option.some.injEq, Prod.mk.injEq] at h; obtain ⟨rfl, _⟩ := h; simp
      · split at h
        · split at h
          · cases h
          · generalize ((s.drop 8).headD 0).toNat = c at *
            simp only [Option.some.injEq, Prod.mk.injEq] at h
            obtain ⟨rfl, _⟩ := h
            simp; omega
        · simp only [Option.some.injEq, Prod.mk.injEq] at h
          obtain ⟨rfl, _⟩ := h
          rw [spreadN_length]
theorem unF_words : ∀ (f : Nat) (l o : List UInt8), l.length ≤ f → unW l = some o → o.length % 8 = 0
  | _, [], o, _, h => by rw [unW_nil] at h; cases h; rfl
  | 0, _ :: _, _, h, _ => by simp at h
  | f + 1, x :: s, o, hf, h => by
    cases hs : stepU (x :: s) with
    | none => rw [unW_bad (by simp) hs] at h; cases h
    | some y =>
      obtain ⟨o1, r⟩ := y
      have hsh := stepU_shorter hs
      have h1 := stepU_words hs
      rw [unW_step hs] at h
      cases hr : unW r with
      | none => rw [hr] at h; cases h
      | some o2 =>
        rw [hr] at h
        simp at h
        have := unF_words f r o2 (by simp at hsh hf; omega) hr
        subst h
        simp; omega
theorem unW_words {l o : List UInt8} (h : unW l = some o) : o.length % 8 = 0 := unF_words l.length l o (Nat.le_refl _) h
end Go.Proofs.YtbhmklbdfmgmlaaGreat

/- impl's word.mask, isFull, and the test for noughts. -/
namespace Go.Proofs.YtbhmklbdfmgmlaaGreat
open Go.RowKit
theorem maskN_take (l : List UInt8) : ∀ k, k < l.length → maskN (l.take (k + 1)) = maskN (l.take k) + (if l[k]?.getD 0 = 0 then 0 else 2 ^ k) := by
  induction l with
  | nil => intro k h; simp at h
  | cons b r ih =>
    intro k h
    cases k with
    | zero => simp [maskN]
    | succ k =>
      rw [List.take_succ_cons, List.take_succ_cons, maskN, maskN, ih k (by simpa using h), List.getElem?_cons_succ, Nat.pow_succ]
      by_cases hz : r[k]?.getD 0 = 0
      · rw [if_pos hz, if_pos hz]; omega
      · rw [if_neg hz, if_neg hz]; omega
theorem or_bit_u8 (m k : Nat) (hm : m < 2 ^ k) (hk : k < 8) : bits .or .u8 (m : Int) ((2 ^ k : Nat) : Int) = ((m + 2 ^ k : Nat) : Int) := by
  have h2 : 2 ^ k ≤ 2 ^ 7 := Nat.pow_le_pow_right (by decide) (by omega)
  have e7 : (2 : Nat) ^ 7 = 128 := rfl
  have hor : m ||| 2 ^ k = m + 2 ^ k := by
    have := Nat.two_pow_add_eq_or_of_lt hm 1
    rw [Nat.mul_one] at this
    rw [Nat.or_comm, ← this]
    omega
  show IntKind.u8.wrap ((BitVec.ofInt 8 (m : Int) ||| BitVec.ofInt 8 ((2 ^ k : Nat) : Int)).toNat : Int) = _
  rw [BitVec.toNat_or, BitVec.ofInt_natCast, BitVec.ofInt_natCast, BitVec.toNat_ofNat, BitVec.toNat_ofNat, Nat.mod_eq_of_lt (by omega), Nat.mod_eq_of_lt (by omega), hor, IntKind.wrap_u8]
  omega
theorem shl_bit_u8 (k : Nat) (hk : k < 8) : IntKind.u8.wrap ((2 ^ k : Nat) : Int) = ((2 ^ k : Nat) : Int) := by
  have h : k = 0 ∨ k = 1 ∨ k = 2 ∨ k = 3 ∨ k = 4 ∨ k = 5 ∨ k = 6 ∨ k = 7 := by omega
  rcases h with rfl | rfl | rfl | rfl | rfl | rfl | rfl | rfl <;> rfl
theorem shl2 (k : Nat) (hk : k < 8) : (2 : Int) ^ k % 256 = ((2 ^ k : Nat) : Int) := by
  have h : k = 0 ∨ k = 1 ∨ k = 2 ∨ k = 3 ∨ k = 4 ∨ k = 5 ∨ k = 6 ∨ k = 7 := by omega
  rcases h with rfl | rfl | rfl | rfl | rfl | rfl | rfl | rfl <;> rfl
theorem index_wd (l : List UInt8) (k : Nat) (c : UInt8) (hl : l.length = 8) (hk : k < 8) (hc : l[k]?.getD 0 = c) (W : World) :
    (Instr.index 91 (.agg (wd l)) (.int .i64 (k : Int))).run Tryz.prog W = .ok (.int .u8 (c.toNat : Int)) W := by
  have hkl : k < l.length := by omega
  have hidx : (wd l)[k]? = some (.int .u8 (c.toNat : Int)) := by rw [← hc]; simp [wd, Lib.byteCells, hkl]
  obtain ⟨j, hj, hjs⟩ := Option.map_eq_some_iff.1 size5
  have hs := wd_size l
  have hk2 : k < (wd l).size := by omega
  have hget : (wd l)[k] = .int .u8 (c.toNat : Int) := by rw [Array.getElem?_eq_getElem hk2] at hidx; exact Option.some.inj hidx
  have hag := Tryz.isAgg5
  simp [Instr.index, part, hag, asIntOf, run_underlying Tryz.underlying91, sizeOf, typeInfo, hj, hjs, hk, hidx, hget]
set_option maxRecDepth 100000 in
set_option maxHeartbeats 2000000 in
theorem mask_any (l : List UInt8) (w : World) (hl : l.length = 8) :
    Calls Tryz.prog 101 #[.agg (wd l)] w fun e w' => e = .returned (.int .u8 (maskN l : Nat)) ∧ Below w.heap.size w w' := by
  have HL := Lib.hid hl
  have h0 := heap_alloc_new w (.cells (wd l) 91)
  have HW := Lib.hid h0
  clear hl h0
  go_enter Tryz.func101, Tryz.ntmps101
  go_wp2_with (refine wpList_load_wd rfl 91 (.tmp 1) rfl w.heap.size rfl 91 l _ HW.out Tryz.underlying91 rfl (by rw [HL.out]; exact size46) ?_)
  go_loop [3, 7] (fun m i => ∃ k : Nat, k ≤ 8 ∧ i = .int .i64 k ∧ m = .int .u8 (maskN (l.take k) : Nat)) (fun _ i => 8 - (intOf i).toNat)
  case atStart => exact ⟨0, by omega, rfl, rfl⟩
  case round =>
    obtain ⟨k, hk, rfl, rfl⟩ := hrel
    have hm1 := maskN_lt (l.take k)
    have hml : (l.take k).length = k := by rw [List.length_take, HL.out]; omega
    rw [hml] at hm1
    by_cases hk1 : k < 8
    · have hst := maskN_take l k (by rw [HL.out]; exact hk1)
      have hidx := fun c hc W => index_wd l k c HL.out hk1 hc W
      have hor := or_bit_u8 (maskN (l.take k)) k hm1 hk1
      have hsh := shl_bit_u8 k hk1
      have HST := Lib.hid hst
      generalize maskN (l.take k) = M at hor HST ⊢
      have hidx2 := hidx _ rfl
      clear hidx
      generalize l[k]?.getD 0 = c at HST hidx2
      clear hst hm1 hml
      by_cases hz : c = 0
      · have hz1 : ((c.toNat : Int) == 0) = true := by rw [hz]; rfl
        have hz2 : ((c.toNat : Int) != 0) = false := by rw [hz]; rfl
        have HZ := Lib.hid hz
        clear hz hor hsh
        go_wp2
        go_round
        case rel => exact ⟨k + 1, by omega, by go_num, by rw [HST.out, if_pos HZ.out]; rfl⟩
        case measure => simp [intOf]; omega
      · have hz1 : ((c.toNat : Int) == 0) = false := by
          rw [beq_eq_false_iff_ne]; intro h; exact hz (UInt8.toNat_inj.1 (show c.toNat = 0 by omega))
        have hz2 : ((c.toNat : Int) != 0) = true := by simp [bne, hz1]
        have HZ := Lib.hid hz
        clear hz
        go_wp2
        go_round
        case rel => exact ⟨k + 1, by omega, by go_num, by rw [HST.out, if_neg HZ.out, shl2 k hk1, hor]⟩
        case measure => simp [intOf]; omega
    · obtain rfl : k = 8 := by omega
      have hall : l.take 8 = l := List.take_of_length_le (by rw [HL.out]; exact Nat.le_refl _)
      rw [hall]
      clear hm1 hml hall
      go_wp2
      go_ret
      exact ⟨rfl, (Below.refl _ _).alloc (Nat.le_refl _) _⟩
theorem few_pop {l : List UInt8} (hl : l.length = 8) : decide (7 ≤ popN 8 (maskN l)) = fewL l := by
  have h1 := popN_mask l
  rw [hl] at h1
  have h3 := filt_len (· == 0) l
  have h2 : nzL l = l.filter (fun x => !(x == 0)) := rfl
  rw [h1, fewL, h2, decide_eq_decide]
  omega
theorem ones_popA : ((List.range 256).all fun x => Lib.onesCount x == popN 8 x) = true := by decide +kernel
theorem ones_popA' (t : Nat) (h : t < 256) : Lib.onesCount t = popN 8 t := by
  have := List.all_eq_true.1 ones_popA t (List.mem_range.2 h)
  simpa using this
set_option maxHeartbeats 1000000 in
theorem isFull_any (l : List UInt8) (w : World) (hl : l.length = 8) :
    Calls Tryz.prog 129 #[.agg (wd l)] w fun e w' => e = .returned (.bool (fewL l)) ∧ Below w.heap.size w w' := by
  have HL := Lib.hid hl
  have h0 := heap_alloc_new w (.cells (wd l) 91)
  have HW := Lib.hid h0
  have hfp := few_pop hl
  have hml := maskN_lt l
  rw [hl] at hml
  have hm256 : maskN l < 256 := hml
  have hones := fun w => Tryz.bits_OnesCount8 (maskN l : Int) w (by omega) (by omega)
  rw [Int.toNat_natCast, ones_popA' (maskN l) hm256] at hones
  have hfp2 : decide ((7 : Int) ≤ ((popN 8 (maskN l) : Nat) : Int)) = fewL l := by rw [← hfp, decide_eq_decide]; omega
  have HM := Lib.hid (fun w => mask_any l w hl)
  obtain ⟨M, hM⟩ : ∃ M, maskN l = M := ⟨_, rfl⟩
  rw [hM] at HM hones hfp2
  have hpl : popN 8 M ≤ 8 := by rw [← hM, ← hl, popN_mask]; exact List.length_filter_le _ _
  obtain ⟨p, hp⟩ : ∃ p, popN 8 M = p := ⟨_, rfl⟩
  rw [hp] at hones hfp2 hpl
  have HON := Lib.hid hones
  have HF := Lib.hid hfp2
  clear hl h0 hfp hml hm256 hones hM hp hfp2
  go_enter Tryz.func129, Tryz.ntmps129
  go_wp2_with (refine wpList_load_wd rfl 91 (.tmp 1) rfl w.heap.size rfl 91 l _ HW.out Tryz.underlying91 rfl (by rw [HL.out]; exact size46) ?_)
  with_reducible (refine (HM.out _).mono ?_)
  rintro e w1 ⟨rfl, hb1⟩
  have HB1 := Lib.hid (((Below.refl _ w).alloc (Nat.le_refl _) (.cells (wd l) 91)).trans (hb1.mono (by simp)))
  clear hb1
  go_wp2_with fail
  with_reducible (refine (HON.out _).mono ?_)
  rintro e w2 ⟨rfl, rfl⟩
  go_wp2
  go_ret
  exact ⟨ret_bool HF.out, HB1.out⟩
theorem zer8_eq (a b c d e f g i : UInt8) : zerL [a, b, c, d, e, f, g, i] = ([a, b, c, d, e, f, g, i] == [0, 0, 0, 0, 0, 0, 0, 0]) := by
  rw [Bool.eq_iff_iff]; simp [zerL]
theorem eql_word (a b c d e f g i : UInt8) (w : World) :
    (binOp .eql 91 (.agg #[.int .u8 a.toNat, .int .u8 b.toNat, .int .u8 c.toNat, .int .u8 d.toNat, .int .u8 e.toNat, .int .u8 f.toNat, .int .u8 g.toNat, .int .u8 i.toNat]) (.agg #[.int .u8 0, .int .u8 0, .int .u8 0, .int .u8 0, .int .u8 0, .int .u8 0, .int .u8 0, .int .u8 0])).run Tryz.prog w = .ok (.bool (zerL [a, b, c, d, e, f, g, i])) w := by
  rw [zer8_eq]
  have h2 : ((Op.equalIn 10000 91 (.agg #[.int .u8 a.toNat, .int .u8 b.toNat, .int .u8 c.toNat, .int .u8 d.toNat, .int .u8 e.toNat, .int .u8 f.toNat, .int .u8 g.toNat, .int .u8 i.toNat]) (.agg #[.int .u8 0, .int .u8 0, .int .u8 0, .int .u8 0, .int .u8 0, .int .u8 0, .int .u8 0, .int .u8 0])).run Tryz.prog w) = .ok ([a, b, c, d, e, f, g, i] == [0, 0, 0, 0, 0, 0, 0, 0]) w := run_equalIn_bytes w 9998 91 5 8 Tryz.underlying91 Tryz.underlying5 (fun w => by kernel_rfl) [a, b, c, d, e, f, g, i] [0, 0, 0, 0, 0, 0, 0, 0] rfl rfl
  rw [run_eql_struct, h2]
  rfl
theorem guard_wordA (op : BinOp) (x y : Operand) (xs ys : Array Value) (w : World) : (eqGuard op 91 x y (.agg xs) (.agg ys)).run Tryz.prog w = .ok () w := run_eqGuard_agg w _ _ _ _ _ _ (by kernel_rfl)
set_option maxHeartbeats 1000000 in
theorem noughts1_any (l : List UInt8) (w : World) (hl : l.length = 8) :
    Calls Tryz.prog 128 #[.agg (wd l)] w fun e w' => e = .returned (.bool (zerL l)) ∧ Below w.heap.size w w' := by
  obtain ⟨a, b, c, d, e, f, g, i, rfl⟩ := len8 hl
  have heq := eql_word a b c d e f g i
  have hgd := fun x y => guard_wordA .eql x y
  have h0 := heap_alloc_new w (.cells (wd [a, b, c, d, e, f, g, i]) 91)
  rw [wd8] at h0 ⊢
  generalize zerL [a, b, c, d, e, f, g, i] = z at heq
  go_enter Tryz.func128, Tryz.ntmps128
  go_wp2
  go_ret
  exact ⟨rfl, (Below.refl _ _).alloc (Nat.le_refl _) _⟩
end Go.Proofs.YtbhmklbdfmgmlaaGreat

/- the specification's l3Tag, l3Few. -/
namespace Go.Proofs.YtbhmklbdfmgmlaaGreat
open Go.RowKit
theorem or_bit_i64 (m k : Nat) (hm : m < 2 ^ k) (hk : k < 8) : bits .or .i64 (m : Int) ((2 ^ k : Nat) : Int) = ((m + 2 ^ k : Nat) : Int) := by
  have h2 : 2 ^ k ≤ 2 ^ 7 := Nat.pow_le_pow_right (by decide) (by omega)
  have e7 : (2 : Nat) ^ 7 = 128 := rfl
  have hor : m ||| 2 ^ k = m + 2 ^ k := by
    have := Nat.two_pow_add_eq_or_of_lt hm 1
    rw [Nat.mul_one] at this
    rw [Nat.or_comm, ← this]
    omega
  show IntKind.i64.wrap ((BitVec.ofInt 64 (m : Int) ||| BitVec.ofInt 64 ((2 ^ k : Nat) : Int)).toNat : Int) = _
  rw [BitVec.toNat_or, BitVec.ofInt_natCast, BitVec.ofInt_natCast, BitVec.toNat_ofNat, BitVec.toNat_ofNat, Nat.mod_eq_of_lt (by omega), Nat.mod_eq_of_lt (by omega), hor]
  rw [IntKind.wrap_i64]
  omega
theorem shl64 (k : Nat) (hk : k < 8) : IntKind.i64.wrap ((2 : Int) ^ k) = ((2 ^ k : Nat) : Int) := by
  have h : k = 0 ∨ k = 1 ∨ k = 2 ∨ k = 3 ∨ k = 4 ∨ k = 5 ∨ k = 6 ∨ k = 7 := by omega
  rcases h with rfl | rfl | rfl | rfl | rfl | rfl | rfl | rfl <;> rfl
set_option maxRecDepth 100000 in
set_option maxHeartbeats 2000000 in
theorem l3Tag_any (s : ByteArray) (w : World) (hs : s.size = 8) :
    Calls Tryz.prog 61 #[.string s] w fun e w' => e = .returned (.int .i64 (maskN s.data.toList : Nat)) ∧ w = w' := by
  have hl : s.data.toList.length = 8 := by simp [hs]
  have HL := Lib.hid hl
  clear hl
  go_enter Tryz.func61, Tryz.ntmps61
  go_wp2
  go_loop [3, 4] (fun m i => ∃ k : Nat, k ≤ 8 ∧ i = .int .i64 k ∧ m = .int .i64 (maskN (s.data.toList.take k) : Nat)) (fun _ i => 8 - (intOf i).toNat)
  case atStart => exact ⟨0, by omega, rfl, rfl⟩
  case round =>
    obtain ⟨k, hk, rfl, rfl⟩ := hrel
    have hm1 := maskN_lt (s.data.toList.take k)
    have hml : (s.data.toList.take k).length = k := by rw [List.length_take, HL.out]; omega
    rw [hml] at hm1
    by_cases hk1 : k < 8
    · have hst := maskN_take s.data.toList k (by rw [HL.out]; exact hk1)
      have hlt : k < s.size := by omega
      rw [bytes_get s k hlt] at hst
      have hor := or_bit_i64 (maskN (s.data.toList.take k)) k hm1 hk1
      have hsh := shl64 k hk1
      have HST := Lib.hid hst
      generalize maskN (s.data.toList.take k) = M at hor HST ⊢
      clear hst hm1 hml
      by_cases hz : s[k] = 0
      · have hz1 : (((s[k]).toNat : Int) == 0) = true := by rw [hz]; rfl
        have hz2 : (((s[k]).toNat : Int) != 0) = false := by rw [hz]; rfl
        have HZ := Lib.hid hz
        clear hz hor hsh
        go_wp2
        go_round
        case rel => exact ⟨k + 1, by omega, by go_num, by rw [HST.out, if_pos HZ.out]; rfl⟩
        case measure => simp [intOf]; omega
      · have hz1 : (((s[k]).toNat : Int) == 0) = false := by
          rw [beq_eq_false_iff_ne]; intro h; exact hz (UInt8.toNat_inj.1 (show (s[k]).toNat = 0 by omega))
        have hz2 : (((s[k]).toNat : Int) != 0) = true := by simp [bne, hz1]
        have HZ := Lib.hid hz
        clear hz
        go_wp2
        go_round
        case rel => exact ⟨k + 1, by omega, by go_num, by rw [HST.out, if_neg HZ.out, ← hor]; simp [hsh]⟩
        case measure => simp [intOf]; omega
    · obtain rfl : k = 8 := by omega
      have hall : s.data.toList.take 8 = s.data.toList := List.take_of_length_le (by rw [HL.out]; exact Nat.le_refl _)
      rw [hall]
      clear hm1 hml hall
      go_wp2
      go_ret
      exact ⟨rfl, rfl⟩
theorem few_take (l : List UInt8) (k : Nat) (h : k < l.length) : ((l.take (k + 1)).filter (· == 0)).length = ((l.take k).filter (· == 0)).length + (if l[k]?.getD 0 = 0 then 1 else 0) := by
  rw [List.take_succ_eq_append_getElem h, List.filter_append, List.length_append, List.getElem?_eq_getElem h, Option.getD_some]
  by_cases hz : l[k] = 0 <;> simp [hz]
set_option maxRecDepth 100000 in
set_option maxHeartbeats 2000000 in
theorem l3Few_any (s : ByteArray) (w : World) (hs : s.size = 8) :
    Calls Tryz.prog 63 #[.string s] w fun e w' => e = .returned (.bool (!(fewL s.data.toList))) ∧ w = w' := by
  have hl : s.data.toList.length = 8 := by simp [hs]
  have HL := Lib.hid hl
  clear hl
  go_enter Tryz.func63, Tryz.ntmps63
  go_wp2
  go_loop [3, 4] (fun m i => ∃ k : Nat, k ≤ 8 ∧ i = .int .i64 k ∧ m = .int .i64 (((s.data.toList.take k).filter (· == 0)).length : Nat)) (fun _ i => 8 - (intOf i).toNat)
  case atStart => exact ⟨0, by omega, rfl, rfl⟩
  case round =>
    obtain ⟨k, hk, rfl, rfl⟩ := hrel
    by_cases hk1 : k < 8
    · have hst := few_take s.data.toList k (by rw [HL.out]; exact hk1)
      have hlt : k < s.size := by omega
      rw [bytes_get s k hlt] at hst
      have hle : ((s.data.toList.take k).filter (· == 0)).length ≤ 8 := Nat.le_trans (List.length_filter_le _ _) (by rw [List.length_take]; omega)
      have HST := Lib.hid hst
      generalize ((s.data.toList.take k).filter (· == 0)).length = M at hle HST ⊢
      clear hst
      by_cases hz : s[k] = 0
      · have hz1 : (((s[k]).toNat : Int) == 0) = true := by rw [hz]; rfl
        have HZ := Lib.hid hz
        clear hz
        go_wp2
        go_round
        case rel => exact ⟨k + 1, by omega, by go_num, by rw [HST.out, if_pos HZ.out]; go_num⟩
        case measure => simp [intOf]; omega
      · have hz1 : (((s[k]).toNat : Int) == 0) = false := by
          rw [beq_eq_false_iff_ne]; intro h; exact hz (UInt8.toNat_inj.1 (show (s[k]).toNat = 0 by omega))
        have HZ := Lib.hid hz
        clear hz
        go_wp2
        go_round
        case rel => exact ⟨k + 1, by omega, by go_num, by rw [HST.out, if_neg HZ.out]; rfl⟩
        case measure => simp [intOf]; omega
    · obtain rfl : k = 8 := by omega
      have hall : s.data.toList.take 8 = s.data.toList := List.take_of_length_le (by rw [HL.out]; exact Nat.le_refl _)
      rw [hall]
      clear hall
      go_wp2
      go_ret
      refine ⟨ret_bool ?_, rfl⟩
      rw [fewL]
      generalize (s.data.toList.filter (· == 0)).length = M
      by_cases h : M ≤ 1
      · rw [decide_eq_true h]; simp; omega
      · rw [decide_eq_false h]; simp; omega
end Go.Proofs.YtbhmklbdfmgmlaaGreat
