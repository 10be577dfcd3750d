/- Words packed: what the laws want of packB and unV. -/
import Derived.Test.YtgeldgikjcihgaaLawPack
namespace Go.Proofs.Ytgeldgikjcihgaa
open Go.RowKit
theorem wds_inj : ∀ a b : List (List UInt8), Wds a → Wds b → a.flatten = b.flatten → a = b
  | [], [], _, _, _ => rfl
  | [], y :: r, _, hb, h => by
    have := hb y (by simp)
    exact absurd (congrArg List.length h) (by rw [List.flatten_cons, List.length_append, List.flatten_nil, List.length_nil]; omega)
  | x :: r, [], ha, _, h => by
    have := ha x (by simp)
    exact absurd (congrArg List.length h) (by rw [List.flatten_cons, List.length_append, List.flatten_nil, List.length_nil]; omega)
  | x :: r, y :: t, ha, hb, h => by
    have hx := ha x (by simp)
    have hy := hb y (by simp)
    rw [List.flatten_cons, List.flatten_cons] at h
    obtain ⟨h1, h2⟩ := List.append_inj h (by omega)
    rw [h1, wds_inj r t (fun z hz => ha z (by simp [hz])) (fun z hz => hb z (by simp [hz])) h2]
theorem packB_words {l : List UInt8} (h : wordsB l.length = true) : packB l = packW (wl (wordsQ l)) := by rw [packB, if_pos h]
theorem wordsB_iff (n : Nat) : wordsB n = true ↔ n % 8 = 0 ∧ n ≤ 1600 := by simp [wordsB]
theorem packB_le {l : List UInt8} (h : wordsB l.length = true) : (packB l).length ≤ l.length + 2 * (l.length / 8) := by
  have := pack_len (wl_wds (wordsQ l))
  rw [packB_words h]
  rw [wl_len, wordsQ_length] at this
  have h2 := (wordsB_iff _).1 h
  omega
theorem packB_un {l : List UInt8} (h : wordsB l.length = true) : unW (packB l) = some l := by
  rw [packB_words h, unW_pack (wl_wds _), wl_flat l ((wordsB_iff _).1 h).1]
theorem packB_un2 {a b : List UInt8} (ha : wordsB a.length = true) (hb : wordsB b.length = true) : unW (packB a ++ packB b) = some (a ++ b) := by
  rw [unW_app _ (packB_un ha), packB_un hb]; rfl
theorem wl_app {a b : List UInt8} (ha : a.length % 8 = 0) (hb : b.length % 8 = 0) : wl (wordsQ (a ++ b)) = wl (wordsQ a) ++ wl (wordsQ b) := by
  refine wds_inj _ _ (wl_wds _) ((wl_wds _).app (wl_wds _)) ?_
  rw [List.flatten_append, wl_flat _ ha, wl_flat _ hb, wl_flat _ (by rw [List.length_append]; omega)]
theorem packB_join {a b : List UInt8} (ha : a.length % 8 = 0) (hb : b.length % 8 = 0) (hab : a.length + b.length ≤ 1600) : (packB (a ++ b)).length ≤ (packB a).length + (packB b).length := by
  rw [packB_words ((wordsB_iff _).2 ⟨ha, by omega⟩), packB_words ((wordsB_iff _).2 ⟨hb, by omega⟩), packB_words ((wordsB_iff _).2 ⟨by rw [List.length_append]; omega, by rw [List.length_append]; omega⟩), wl_app ha hb]
  exact pack_join (by rw [wl_len, wl_len, wordsQ_length, wordsQ_length]; omega) (wl_wds _) (wl_wds _)
theorem packB_zero {l : List UInt8} (h : wordsB l.length = true) (h0 : l.length ≠ 0) (hz : ∀ b ∈ l, b = 0) : packB l = [0, UInt8.ofNat (l.length / 8 - 1)] := by
  have h2 := (wordsB_iff _).1 h
  have hlen : (wl (wordsQ l)).length = l.length / 8 := by rw [wl_len, wordsQ_length]
  rw [packB_words h, pack_zero (by omega) (by omega) ?_, hlen]
  intro w hw
  have hm : ∀ b ∈ w, b ∈ l := fun b hb => by
    rw [← wl_flat l h2.1]; exact List.mem_flatten.2 ⟨w, hw, hb⟩
  rw [zerL, List.all_eq_true]
  intro b hb
  simp [hz b (hm b hb)]
theorem unV_of {s : ByteArray} {l : List UInt8} (h : unW s.data.toList = some l) (hl : l.length ≤ 1600) : unV s = .tuple #[.string ⟨l.toArray⟩, .bool true] := by
  have h2 : fitU [] (unW s.data.toList) = some l := by rw [h]; simp [fitU, hl]
  rw [unV, h2]
end Go.Proofs.Ytgeldgikjcihgaa
