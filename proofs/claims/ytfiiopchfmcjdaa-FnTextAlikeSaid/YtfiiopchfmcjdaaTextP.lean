/- Pure facts: the text of a node. -/
import Derived.Test.YtfiiopchfmcjdaaTextD
import Derived.Test.YtfiiopchfmcjdaaNdOk
import Derived.Lib.IndexAny
namespace Go.Proofs.Ytfiiopchfmcjdaa
open Go.RowKit
theorem ib_iff : ∀ (l : List UInt8) (c : UInt8) (k : Nat), Lib.indexByte l c = (k : Int) ↔ (l[k]? = some c ∧ ∀ j, j < k → l[j]? ≠ some c)
  | [], c, k => by
    simp only [Lib.indexByte]
    constructor
    · intro h; omega
    · intro h; simp at h
  | b :: l, c, k => by
    simp only [Lib.indexByte]
    by_cases hb : b = c
    · subst hb
      rw [if_pos (by simp)]
      constructor
      · intro h
        obtain rfl : k = 0 := by omega
        exact ⟨rfl, fun j hj => by omega⟩
      · intro h
        cases k with
        | zero => rfl
        | succ k => exact absurd rfl (h.2 0 (by omega))
    · rw [if_neg (by simpa using hb)]
      have hge := Lib.indexByte_ge l c
      cases k with
      | zero =>
        constructor
        · intro h
          split at h
          · omega
          · rename_i h1; have : Lib.indexByte l c ≠ -1 := by simpa using h1
            omega
        · intro h; exact absurd (by simpa using h.1) hb
      | succ k =>
        have ih := ib_iff l c k
        constructor
        · intro h
          split at h
          · omega
          · rename_i h1
            have h2 := ih.1 (by omega)
            refine ⟨by simpa using h2.1, fun j hj => ?_⟩
            cases j with
            | zero => simpa using hb
            | succ j => simpa using h2.2 j (by omega)
        · intro h
          have h2 := ih.2 ⟨by simpa using h.1, fun j hj => by simpa using h.2 (j + 1) (by omega)⟩
          rw [if_neg (by rw [h2]; simp), h2]
          rfl
/-- the one nought of these bytes is their last. -/
def txt (d : ByteArray) : Bool := decide (0 < d.size) && decide (Lib.indexByte d.data.toList 0 = (d.size : Int) - 1)
theorem txt_iff {d : ByteArray} : txt d = true ↔ 0 < d.size ∧ (∀ j (h : j < d.size), (d[j] = 0 ↔ j = d.size - 1)) := by
  unfold txt
  rw [Bool.and_eq_true, decide_eq_true_eq, decide_eq_true_eq]
  have hg : ∀ j (h : j < d.size), d.data.toList[j]? = some d[j] := fun j h => by
    have hl : j < d.data.toList.length := by simpa using h
    rw [List.getElem?_eq_getElem hl]; rfl
  constructor
  · rintro ⟨h0, h1⟩
    have h2 := (ib_iff d.data.toList 0 (d.size - 1)).1 (by omega)
    refine ⟨h0, fun j hj => ⟨fun h => ?_, fun h => ?_⟩⟩
    · rcases Nat.lt_or_ge j (d.size - 1) with hlt | hge
      · exact absurd (by rw [hg j hj, h]) (h2.2 j hlt)
      · omega
    · subst h
      have := h2.1
      rw [hg _ hj] at this
      exact Option.some.inj this
  · rintro ⟨h0, h1⟩
    refine ⟨h0, ?_⟩
    have := (ib_iff d.data.toList 0 (d.size - 1)).2 ⟨by rw [hg _ (by omega), (h1 _ (by omega)).2 rfl], fun j hj => by
      rw [hg j (by omega)]
      intro he
      have := (h1 j (by omega)).1 (Option.some.inj he)
      omega⟩
    omega
def isTx (n : Nd) : Bool := decide (n.kind = 2 ∧ n.size = 2 ∧ n.count = (n.data.size : Int) ∧ n.ptrs.length = 0 ∧ n.items.length = 0) && txt n.data
def noTx (n : Nd) : Bool := decide (n.kind = 0) && noneN n
/-- what TextOf answers. -/
def txS (n : Nd) : ByteArray := if noTx n then ⟨#[]⟩ else if isTx n then n.data.extract 0 (n.data.size - 1) else ⟨#[]⟩
def txB (n : Nd) : Bool := noTx n || isTx n
theorem ba_take (d : ByteArray) (k : Nat) : (d.extract 0 k).data.toList = d.data.toList.take k := by simp
theorem ba_app (a b : ByteArray) : (a ++ b).data.toList = a.data.toList ++ b.data.toList := by simp
theorem ba_ext {a b : ByteArray} (h : a.data.toList = b.data.toList) : a = b := by
  obtain ⟨⟨x⟩⟩ := a
  obtain ⟨⟨y⟩⟩ := b
  simp at h
  rw [h]
theorem ba_get {d : ByteArray} {j : Nat} (h : j < d.size) : d.data.toList[j]'(by simpa using h) = d[j] := rfl
theorem cut_back {d : ByteArray} (h : txt d = true) : d.extract 0 (d.size - 1) ++ ⟨#[0]⟩ = d := by
  obtain ⟨h0, h1⟩ := txt_iff.1 h
  have hl := (h1 (d.size - 1) (by omega)).2 rfl
  have hlen : d.data.toList.length = d.size := by simp
  apply ba_ext
  rw [ba_app, ba_take]
  have := List.take_succ_eq_append_getElem (l := d.data.toList) (i := d.size - 1) (by rw [hlen]; omega)
  rw [ba_get (by omega), hl, show d.size - 1 + 1 = d.size by omega, List.take_of_length_le (by omega)] at this
  exact this.symm
theorem cut_noz {d : ByteArray} (h : txt d = true) : hasZ (d.extract 0 (d.size - 1)) = false := by
  obtain ⟨h0, h1⟩ := txt_iff.1 h
  have hs : (d.extract 0 (d.size - 1)).size = d.size - 1 := by simp
  refine hasZ_false fun j hj => ?_
  rw [hs] at hj
  rw [ba_take, List.getElem?_take_of_lt hj, List.getElem?_eq_getElem (by simp; omega), Option.getD_some, ba_get (by omega)]
  intro hz
  have := (h1 j (by omega)).1 hz
  omega
theorem txt_snoc {t : ByteArray} (h : hasZ t = false) : txt (t ++ ⟨#[0]⟩) = true := by
  have hs : (t ++ ⟨#[0]⟩ : ByteArray).size = t.size + 1 := getD_size t ⟨#[0]⟩
  have hlen : t.data.toList.length = t.size := by simp
  rw [txt_iff]
  refine ⟨by omega, fun j hj => ?_⟩
  rw [← ba_get hj]
  rcases Nat.lt_or_ge j t.size with hlt | hge
  · have he : (t ++ ⟨#[0]⟩ : ByteArray).data.toList[j]'(by have := hj; rw [hs] at this; simpa using this) = t[j] := by
      simp only [ba_app]
      rw [List.getElem_append_left (by omega)]; rfl
    rw [he]
    constructor
    · intro h0
      rw [hasZ_true hlt h0] at h; cases h
    · intro h0; omega
  · obtain rfl : j = t.size := by omega
    have he : (t ++ ⟨#[0]⟩ : ByteArray).data.toList[t.size]'(by simp) = 0 := by
      simp only [ba_app]
      rw [List.getElem_append_right (by omega)]
      simp
    rw [he, hs]
    simp
theorem snoc_cut (t : ByteArray) : (t ++ ⟨#[0]⟩ : ByteArray).extract 0 ((t ++ ⟨#[0]⟩ : ByteArray).size - 1) = t := by
  have hs : (t ++ ⟨#[0]⟩ : ByteArray).size = t.size + 1 := getD_size t ⟨#[0]⟩
  have hlen : t.data.toList.length = t.size := by simp
  rw [hs]
  apply ba_ext
  rw [ba_take, ba_app, Nat.add_sub_cancel, List.take_append_of_le_length (by omega), List.take_of_length_le (by omega)]
theorem bits_rest8 {d : ByteArray} {b : Int} (h0 : 0 ≤ b) (hs : (d.size : Int) = (b + 7) / 8) (h8 : b % 8 = 0) : bitsB d b = true := by simp [bitsB, hs, h8]
/-- a text that is short is ok. -/
theorem tx_form {n : Nd} (h : isTx n = true) (hb : n.data.size ≤ 1592) : formN n = true := by
  unfold isTx at h
  rw [Bool.and_eq_true, decide_eq_true_eq] at h
  obtain ⟨⟨h1, h2, h3, h4, h5⟩, h6⟩ := h
  have hw : wiB n.count 12801 = true := by unfold wiB; rw [decide_eq_true_eq]; omega
  have hz : n.count * bz 2 = 8 * (n.data.size : Int) := by rw [h3]; show (n.data.size : Int) * 8 = _; omega
  have hbb : bitsB n.data (n.count * bz 2) = true := by
    rw [hz]
    refine bits_rest8 ?_ ?_ ?_ <;> omega
  unfold formN listN listB
  rw [h1, h2, h4, h5, hw, hbb]
  simp
theorem tx_ok {n : Nd} (h : isTx n = true) (hb : n.data.size ≤ 1592) : nodeOk n = true := by
  have hf := tx_form h hb
  unfold isTx at h
  rw [Bool.and_eq_true, decide_eq_true_eq] at h
  obtain ⟨⟨h1, h2, h3, h4, h5⟩, h6⟩ := h
  have hp : ptrsL n = [] := by unfold ptrsL; rw [nil_of_len h4, nil_of_len h5]; rfl
  have ho : ownN n = (n.data.size + 7) / 8 := by unfold ownN ownB; rw [nil_of_len h4, nil_of_len h5, if_neg (by omega)]; simp
  have hok : okN 8 n = true := by simp [okN, hf, hp]
  have hw : wordsN 8 n = ownN n := by show ownN n + ((ptrsL n).map (wordsN 7)).sum = _; rw [hp]; simp
  unfold nodeOk
  rw [hok, hw, ho]
  simp; omega
/-- of a node that is ok, and a list of bytes, only the bytes are left to be looked at. -/
theorem ok_bytes {n : Nd} (ho : nodeOk n = true) (h1 : n.kind = 2) (h2 : n.size = 2) : n.count = (n.data.size : Int) ∧ n.ptrs.length = 0 ∧ n.items.length = 0 := by
  have hf : formN n = true := by
    cases hf : formN n with
    | true => rfl
    | false => unfold nodeOk at ho; rw [ok_form hf] at ho; cases ho
  rcases form_cases hf with hc | hc | hc
  · omega
  · omega
  · rcases hc.2.2 with hc | hc | hc
    · have hb := hc.2.2.1
      rw [h2] at hb
      have : n.count * bz 2 = 8 * n.count := by show n.count * 8 = _; omega
      rw [this] at hb
      unfold bitsB at hb
      rw [Bool.and_eq_true, decide_eq_true_eq] at hb
      exact ⟨by have := hb.1; omega, hc.2.2.2.1, hc.2.2.2.2⟩
    · omega
    · omega
end Go.Proofs.Ytfiiopchfmcjdaa
