/- A text as a node: a list of its bytes. The specification's TextNode. -/
import Derived.Test.YtfiiopchfmcjdaaNdEq
import Derived.Test.YtfiiopchfmcjdaaMath1
import Derived.Test.YtfiiopchfmcjdaaNdBits
namespace Go.Proofs.Ytfiiopchfmcjdaa
open Go.RowKit
def hasZ (t : ByteArray) : Bool := t.data.toList.contains 0
def textB (t : ByteArray) : Bool := hasZ t || decide (100 < t.size)
def zeroN : Nd := .mk 0 ⟨#[]⟩ [] 0 0 []
def textN (t : ByteArray) : Nd := if textB t then zeroN else .mk 2 (t ++ ⟨#[0]⟩) [] 2 (t.size + 1) []
abbrev noHd : Hd := ⟨none, 0, none, 0⟩
theorem hasZ_false {t : ByteArray} (h : ∀ j, j < t.size → t.data.toList[j]?.getD 1 ≠ 0) : hasZ t = false := by
  unfold hasZ
  rw [Bool.eq_false_iff]
  intro hc
  rw [List.contains_iff_mem] at hc
  obtain ⟨j, hj, e⟩ := List.mem_iff_getElem.1 hc
  have := h j (by simpa using hj)
  rw [List.getElem?_eq_getElem hj, Option.getD_some] at this
  exact this e
theorem hasZ_true {t : ByteArray} {k : Nat} (hk : k < t.size) (h : t[k] = 0) : hasZ t = true := by
  unfold hasZ
  rw [List.contains_iff_mem]
  have hg := bytes_get t k hk
  have hl : k < t.data.toList.length := by simpa using hk
  rw [List.getElem?_eq_getElem hl, Option.getD_some, h] at hg
  rw [← hg]
  exact List.getElem_mem _
/-- a node without lists lies anywhere. -/
theorem nd_bare (w : World) (S : Nat → Prop) (m : Nat) (k : Int) (d : ByteArray) (s c : Int) (hd : d.size ≤ maxLen) : NdAt w S m (.mk k d [] s c []) noHd := ⟨hd, NdsAt.nil _ _ _ _, NdsAt.nil _ _ _ _⟩
theorem textN_size (t : ByteArray) : (textN t).data.size ≤ 101 := by
  unfold textN
  split
  · exact Nat.zero_le _
  · rename_i h
    have : ¬ (100 < t.size) := by
      intro hc
      exact h (by unfold textB; rw [decide_eq_true hc, Bool.or_true])
    show (t ++ ⟨#[0]⟩).size ≤ 101
    rw [getD_size]
    show t.size + 1 ≤ 101
    omega
theorem textN_lists (t : ByteArray) : (textN t).ptrs = [] ∧ (textN t).items = [] := by unfold textN; split <;> exact ⟨rfl, rfl⟩
theorem textN_at (w : World) (S : Nat → Prop) (m : Nat) (t : ByteArray) : NdAt w S m (textN t) noHd := by
  have h := textN_lists t
  have hs := textN_size t
  generalize textN t = n at h hs
  obtain ⟨k, d, p, s, c, i⟩ := n
  obtain ⟨rfl, rfl⟩ : p = [] ∧ i = [] := h
  exact nd_bare w S m k d s c (Nat.le_trans hs (by decide))
theorem textN_tot (m : Nat) (t : ByteArray) : totN m (textN t) ≤ 101 := by
  have h := textN_lists t
  have hs := textN_size t
  unfold totN
  rw [h.1, h.2]
  have : totL m [] = 0 := by cases m <;> rfl
  omega
/-- the node of a text as a value. -/
def ndV (n : Nd) (h : Hd) : Value := .agg #[.int .i64 n.kind, .string n.data, .slice h.A n.ptrs.length h.a, .int .i64 n.size, .int .i64 n.count, .slice h.B n.items.length h.b]
theorem textN_no {t : ByteArray} (h : textB t = true) : ndV (textN t) noHd = .agg #[.int .i64 0, .string ⟨#[]⟩, .slice none 0 0, .int .i64 0, .int .i64 0, .slice none 0 0] := by
  unfold textN; rw [if_pos h]; rfl
theorem textN_yes {t : ByteArray} (h : textB t = false) : ndV (textN t) noHd = .agg #[.int .i64 2, .string (t ++ ⟨#[0]⟩), .slice none 0 0, .int .i64 2, .int .i64 ((t.size : Int) + 1), .slice none 0 0] := by
  unfold textN; rw [if_neg (by rw [h]; decide)]; rfl
/-- a result of six cells is stored, and read. -/
theorem fin6 {w W : World} {T : TypeId} {u0 u1 u2 u3 u4 u5 : Value} (v0 v1 v2 v3 v4 v5 : Value) (hz : W.heap[w.heap.size]? = some (.cells #[u0, u1, u2, u3, u4, u5] T (0, 0))) (hb : Below w.heap.size w W) :
    ∃ wf, ((((((W.setCell ⟨w.heap.size, 0, none⟩ v0).setCell ⟨w.heap.size, 1, none⟩ v1).setCell ⟨w.heap.size, 2, none⟩ v2).setCell ⟨w.heap.size, 3, none⟩ v3).setCell ⟨w.heap.size, 4, none⟩ v4).setCell ⟨w.heap.size, 5, none⟩ v5) = wf ∧ wf.heap[w.heap.size]? = some (.cells #[v0, v1, v2, v3, v4, v5] T (0, 0)) ∧ Below w.heap.size w wf := by
  have hk : ∀ (W : World) (i : Nat) (v : Value), Below w.heap.size w W → Below w.heap.size w (W.setCell ⟨w.heap.size, i, none⟩ v) := fun W i v hW => hW.setCell (p := ⟨w.heap.size, i, none⟩) (Nat.le_refl _) v
  exact ⟨_, rfl, row_setN (row_setN (row_setN (row_setN (row_setN (row_setN hz 0 _) 1 _) 2 _) 3 _) 4 _) 5 _, hk _ _ _ (hk _ _ _ (hk _ _ _ (hk _ _ _ (hk _ _ _ (hk _ _ _ hb)))))⟩
set_option maxHeartbeats 1000000 in
theorem specTextNode_a (t : ByteArray) (w : World) (ht : t.size ≤ 2000000) :
    Calls Try.prog 22 #[.string t] w fun e w' => e = .returned (ndV (textN t) noHd) ∧ Below w.heap.size w w' := by
  have HB0 := Lib.hid ((Below.refl w.heap.size w).alloc (Nat.le_refl _) (.cells #[.int .i64 0, .string { data := #[] }, .slice none 0 0, .int .i64 0, .int .i64 0, .slice none 0 0] nodeT))
  have HROW := Lib.hid (heap_alloc_new w (.cells #[.int .i64 0, .string { data := #[] }, .slice none 0 0, .int .i64 0, .int .i64 0, .slice none 0 0] nodeT))
  go_enter Try.func22, Try.ntmps22
  go_wp2
  generalize w.alloc (.cells #[.int .i64 0, .string { data := #[] }, .slice none 0 0, .int .i64 0, .int .i64 0, .slice none 0 0] nodeT) = W at *
  go_loopw [3] (fun i wr => wr = W ∧ ∃ k : Nat, k ≤ t.size ∧ i = .int .i64 (k : Int) ∧ Hid (∀ j, j < k → t.data.toList[j]?.getD 1 ≠ 0)) (fun i _ => (t.size - intOf i).toNat)
  case atStart => exact ⟨rfl, 0, by omega, by simp, Lib.hid (fun j hj => by omega)⟩
  case round =>
    obtain ⟨rfl, k, hk, rfl, HZ⟩ := hrel
    obtain ⟨z0, z1, z2, z3, z4, z5⟩ := cells6 HROW.out
    have zf := row_free HROW.out
    by_cases hlt : k < t.size
    · have hg : t.data.toList[k]?.getD 1 = t[k] := by
        have hl : k < t.data.toList.length := by simpa using hlt
        rw [List.getElem?_eq_getElem hl, Option.getD_some]
        rfl
      have HG := Lib.hid hg
      clear hg
      by_cases hb : t[k] = 0
      · have hb' : (((t[k]).toNat : Int) == 0) = true := by simp [hb]
        have HT : Hid (textB t = true) := Lib.hid (by unfold textB; rw [hasZ_true hlt hb]; rfl)
        clear hb
        go_wp2
        obtain ⟨wf, hwf, hrw, hbf⟩ := fin6 (.int .i64 0) (.string ⟨#[]⟩) (.slice none 0 0) (.int .i64 0) (.int .i64 0) (.slice none 0 0) HROW.out HB0.out
        rw [hwf]
        obtain ⟨e0, e1, e2, e3, e4, e5⟩ := cells6 hrw
        refine bodyPost_ret (v := .agg #[.int .i64 0, .string ⟨#[]⟩, .slice none 0 0, .int .i64 0, .int .i64 0, .slice none 0 0]) (by simp [results, Try.results22, go_sem, e0, e1, e2, e3, e4, e5]) rfl ⟨by rw [textN_no HT.out], hbf⟩
      · have hb' : (((t[k]).toNat : Int) == 0) = false := by
          rw [beq_eq_false_iff_ne]
          intro h
          exact hb (UInt8.toNat_inj.1 (by simpa using h))
        have HB := Lib.hid hb
        clear hb z0 z1 z2 z3 z4 z5 zf
        go_wp2
        go_roundw
        case rel =>
          refine ⟨by trivial, k + 1, by omega, by go_num, Lib.hid fun j hj => ?_⟩
          by_cases hjk : j < k
          · exact HZ.out j hjk
          · obtain rfl : j = k := by omega
            rw [HG.out]; exact HB.out
        case measure => simp [intOf]; omega
    · obtain rfl : k = t.size := by omega
      have HNZ := Lib.hid (hasZ_false HZ.out)
      by_cases hlong : 100 < t.size
      · have HT : Hid (textB t = true) := Lib.hid (by unfold textB; rw [decide_eq_true hlong, Bool.or_true])
        go_wp2
        obtain ⟨wf, hwf, hrw, hbf⟩ := fin6 (.int .i64 0) (.string ⟨#[]⟩) (.slice none 0 0) (.int .i64 0) (.int .i64 0) (.slice none 0 0) HROW.out HB0.out
        rw [hwf]
        obtain ⟨e0, e1, e2, e3, e4, e5⟩ := cells6 hrw
        refine bodyPost_ret (v := .agg #[.int .i64 0, .string ⟨#[]⟩, .slice none 0 0, .int .i64 0, .int .i64 0, .slice none 0 0]) (by simp [results, Try.results22, go_sem, e0, e1, e2, e3, e4, e5]) rfl ⟨by rw [textN_no HT.out], hbf⟩
      · have HT : Hid (textB t = false) := Lib.hid (by unfold textB; rw [HNZ.out, decide_eq_false hlong]; rfl)
        have hwr : IntKind.i64.wrap ((t.size : Int) + 1) = (t.size : Int) + 1 := by rw [IntKind.wrap_i64]; omega
        go_wp2
        obtain ⟨wf, hwf, hrw, hbf⟩ := fin6 (.int .i64 2) (.string (t ++ ⟨#[0]⟩)) (.slice none 0 0) (.int .i64 2) (.int .i64 ((t.size : Int) + 1)) (.slice none 0 0) HROW.out HB0.out
        rw [hwf]
        obtain ⟨e0, e1, e2, e3, e4, e5⟩ := cells6 hrw
        refine bodyPost_ret (v := .agg #[.int .i64 2, .string (t ++ ⟨#[0]⟩), .slice none 0 0, .int .i64 2, .int .i64 ((t.size : Int) + 1), .slice none 0 0]) (by simp [results, Try.results22, go_sem, e0, e1, e2, e3, e4, e5]) rfl ⟨by rw [textN_yes HT.out], hbf⟩
end Go.Proofs.Ytfiiopchfmcjdaa
