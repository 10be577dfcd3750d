/- Texts of the proof of the law FnExactRecordGet, side by side: part 19. -/
import Derived.Test.YtehhbbdaeonebaaGreatDoorRows
import Derived.Lib.LaidTab
import Derived.Stop.LaidErr
import Derived.MakeChecks
import Derived.Test.YtehhbbdaeonebaaGreatDoorMExactRecordGet18
set_option maxHeartbeats 8000000
set_option maxRecDepth 100000
namespace Go.Proofs.YtehhbbdaeonebaaGreatDoor
open Go.RowKit
def tab64 : List Int := [0, 1, 56, 2, 57, 49, 28, 3, 61, 58, 42, 50, 38, 29, 17, 4, 62, 47, 59, 36, 45, 43, 51, 22, 53, 39, 33, 30, 24, 18, 12, 5, 63, 55, 48, 27, 60, 41, 37, 16, 46, 35, 44, 21, 52, 32, 23, 11, 54, 26, 40, 15, 34, 20, 31, 10, 25, 14, 19, 9, 13, 8, 7, 6]
theorem tab64_eq : (Rows.laid_math_bits_deBruijn64tab (H := Unit)) = Lib.tabData .u8 tab64 := by rfl
theorem tab_of {W : World} (h : laidMetH Tryz.prog [("math/bits.deBruijn32tab", Rows.laid_math_bits_deBruijn32tab), ("math/bits.deBruijn64tab", Rows.laid_math_bits_deBruijn64tab)] W) : Tab W := by
 rw [MakeChecks.laidMetH_plain _ _ _ (by kernel_rfl)] at h
 have h1 := laidMet.tail h
 rw [tab64_eq] at h1
 have hT := Lib.tabIs_of_head (g := 2) (t := 181) (e := 5) (n := 64) (by kernel_rfl) (by kernel_rfl) Tryz.underlying181 Tryz.underlying5 (by kernel_rfl) (by kernel_rfl) h1
 have hg : Tryz.prog.globalNamed "math/bits.deBruijn64tab" = some 2 := by kernel_rfl
 exact ⟨hT.cell hg 0 (by decide), hT.cell hg 7 (by decide), hT.cell hg 15 (by decide), hT.cell hg 31 (by decide), hT.cell hg 63 (by decide)⟩
open Go.RowKit Go.ChangeShapes Go.WideShapes Go.Deep
section
variable {H : Type} {enc : TypeId × Value → H} {P : Program} {w : World} {base : Nat} {spare : Nat → Bool} {held : Bool}
theorem open_slice_flds {t e : TypeId} {fs : Array Field} {fuel : Nat} {cs : List Value} {x : DataW H × List MemPlace} (ht : P.underlying t = some (.slice e)) (he : P.underlying e = some (.struct fs))
 (hone : oneCellFields P fs = true) (hC : P.cellsOf e = fs.size) (h : DataW.trod enc P w base spare held fuel t cs = some x) :
 cs = [.slice none 0 0] ∨
 ∃ (a : Addr) (len cap : Nat), cs = [.slice (some a) len cap] ∧ len ≤ cap ∧ cap ≤ maxLen ∧
  ∀ i, i < len → ∀ (j : Nat) (f : Field), fs[j]? = some f → ∃ (v : Value) (n : Nat) (y : DataW H × List MemPlace), w.cell? (a.add (i * fs.size + j)) = some v ∧ DataW.trod enc P w base spare held n f.type [v] = some y := by
 rcases open_slice ht h with ⟨h0, _⟩ | ⟨a, len, cap, m, n, D, Pl, hcs, hb, hl, hm, hmm, hx, hi⟩
 · exact .inl h0
 · refine .inr ⟨a, len, cap, hcs, hl, hm, fun i hil j f hj => ?_⟩
   have him : i < m := by rw [hmm]; split <;> omega
   obtain ⟨cs', hc, ht'⟩ := hi i him
   rw [hC] at hc
   obtain ⟨ys, n', hn', hy, hlen, hyl, hf⟩ := DataW.trod_struct he ht'
   obtain ⟨_, hcl, hat⟩ := World.cells?_some hc
   obtain ⟨ho, hk⟩ := hone_of hone j f hj
   have hjl : j < fs.size := (Array.getElem?_eq_some_iff.1 hj).1
   have hcell := hat j hjl
   have hv : cs'[j]? = some (cs'[j]'(by omega)) := List.getElem?_eq_getElem (by omega)
   have h1 := hf j f hj
   rw [ho, hk] at h1
   have hone' : (cs'.drop j).take 1 = [cs'[j]'(by omega)] := by
    rw [List.drop_eq_getElem_cons (by omega)]
    rfl
   rw [hone'] at h1
   have hys : ys[j]? = some (ys[j]'(by omega)) := List.getElem?_eq_getElem (by omega)
   refine ⟨_, _, _, ?_, h1.trans hys⟩
   rw [← Go.Deep.add_add, hcell, hv]
theorem argF {fuel : Nat} {a : Option Addr} {len cap : Nat} {x : DataW H × List MemPlace} (h : DataW.trod enc Tryz.prog w base spare held fuel 22 [.slice a len cap] = some x) :
 ∃ l : List Fld, l.length = len ∧ Flds w a l ∧ len ≤ maxLen := by
 rcases open_slice_flds Tryz.underlying22 Tryz.underlying69 (by kernel_rfl) (by kernel_rfl) h with hcs | ⟨b, l, c, hcs, hl, hm, hc⟩
 · simp at hcs
   obtain ⟨rfl, rfl, rfl⟩ := hcs
   exact ⟨[], rfl, .inl rfl, by decide⟩
 · simp at hcs
   obtain ⟨rfl, rfl, rfl⟩ := hcs
   have hcell : ∀ i, i < len → ∃ f : Fld, w.cell? (b.add (i * 3)) = some (.int .i64 f.size) ∧ w.cell? (b.add (i * 3 + 1)) = some (.bool f.choice) ∧ w.cell? (b.add (i * 3 + 2)) = some (.int .i64 f.els) := by
    intro i hi
    obtain ⟨v0, n0, y0, c0, t0⟩ := hc i hi 0 _ rfl
    obtain ⟨v1, n1, y1, c1, t1⟩ := hc i hi 1 _ rfl
    obtain ⟨v2, n2, y2, c2, t2⟩ := hc i hi 2 _ rfl
    obtain ⟨z0, e0, _⟩ := DataW.trod_int Tryz.underlying3 t0
    obtain ⟨z1, e1, _⟩ := DataW.trod_bool Tryz.underlying4 t1
    obtain ⟨z2, e2, _⟩ := DataW.trod_int Tryz.underlying3 t2
    injection e0 with e0
    injection e1 with e1
    injection e2 with e2
    subst e0 e1 e2
    exact ⟨⟨z0, z1, z2⟩, c0, c1, c2⟩
   haveI : Inhabited Fld := ⟨⟨0, false, 0⟩⟩
   obtain ⟨g, hg⟩ := choose_lt hcell
   refine ⟨(List.range len).map g, by simp, ?_, Nat.le_trans hl hm⟩
   by_cases h0 : len = 0
   · subst h0; exact .inl rfl
   · refine .inr ⟨b, rfl, ?_, fun k f hk => ?_⟩
     · have := World.block_lt_of_cell? w _ (hg 0 (by omega)).1
       rwa [addr_block] at this
     · rw [List.getElem?_map] at hk
       by_cases hlt : k < len
       · rw [List.getElem?_range hlt] at hk
         injection hk with hk
         subst hk
         obtain ⟨c0, c1, c2⟩ := hg k hlt
         exact ⟨c0, by rw [add_off2 _ _ 1 (by decide)]; exact c1, by rw [add_off2 _ _ 2 (by decide)]; exact c2⟩
       · rw [List.getElem?_eq_none (by simpa using hlt)] at hk; cases hk
end
end Go.Proofs.YtehhbbdaeonebaaGreatDoor
