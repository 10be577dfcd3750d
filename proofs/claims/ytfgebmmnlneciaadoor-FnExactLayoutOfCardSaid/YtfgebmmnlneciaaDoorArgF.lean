/- An argument of fields; the laws' own functions over fields. -/
import Derived.Test.YtfgebmmnlneciaaDoorFldM
import Derived.Deep.Slices
import Derived.Deep.Fields
import Derived.ChangeSame
namespace Go.Proofs.YtfgebmmnlneciaaDoor
open Go.RowKit Go.ChangeShapes Go.WideShapes Go.Deep
section
variable {H : Type} {enc : TypeId × Value → H} {P : Program} {w : World} {base : Nat} {spare : Nat → Bool} {held : Bool}
theorem open_slice_flds {t e : TypeId} {fs : Array Field} {fuel : Nat} {cs : List Value} {x : DataW H × List MemPlace} (ht : P.underlying t = some (.slice e)) (he : P.underlying e = some (.struct fs))
    (hone : oneCellFields P fs = true) (hC : P.cellsOf e = fs.size) (h : DataW.trod enc P w base spare held fuel t cs = some x) :
    cs = [.slice none 0 0] ∨
    ∃ (a : Addr) (len cap : Nat), cs = [.slice (some a) len cap] ∧ len ≤ cap ∧ cap ≤ maxLen ∧
      ∀ i, i < len → ∀ (j : Nat) (f : Field), fs[j]? = some f → ∃ (v : Value) (n : Nat) (y : DataW H × List MemPlace), w.cell? (a.add (i * fs.size + j)) = some v ∧ DataW.trod enc P w base spare held n f.type [v] = some y := by
  rcases open_slice ht h with ⟨h0, _⟩ | ⟨a, len, cap, m, n, D, Pl, hcs, hb, hl, hm, hmm, hx, hi⟩
  · exact .inl h0
  · refine .inr ⟨a, len, cap, hcs, hl, hm, fun i hil j f hj => ?_⟩
    have him : i < m := by rw [hmm]; split <;> omega
    obtain ⟨cs', hc, ht'⟩ := hi i him
    rw [hC] at hc
    obtain ⟨ys, n', hn', hy, hlen, hyl, hf⟩ := DataW.trod_struct he ht'
    obtain ⟨_, hcl, hat⟩ := World.cells?_some hc
    obtain ⟨ho, hk⟩ := hone_of hone j f hj
    have hjl : j < fs.size := (Array.getElem?_eq_some_iff.1 hj).1
    have hcell := hat j hjl
    have hv : cs'[j]? = some (cs'[j]'(by omega)) := List.getElem?_eq_getElem (by omega)
    have h1 := hf j f hj
    rw [ho, hk] at h1
    have hone' : (cs'.drop j).take 1 = [cs'[j]'(by omega)] := by
      rw [List.drop_eq_getElem_cons (by omega)]
      rfl
    rw [hone'] at h1
    have hys : ys[j]? = some (ys[j]'(by omega)) := List.getElem?_eq_getElem (by omega)
    refine ⟨_, _, _, ?_, h1.trans hys⟩
    rw [← Go.Deep.add_add, hcell, hv]
theorem argF {fuel : Nat} {a : Option Addr} {len cap : Nat} {x : DataW H × List MemPlace} (h : DataW.trod enc Tryd.prog w base spare held fuel 22 [.slice a len cap] = some x) :
    ∃ l : List Fld, l.length = len ∧ Flds w a l ∧ len ≤ maxLen := by
  rcases open_slice_flds Tryd.underlying22 Tryd.underlying53 (by kernel_rfl) (by kernel_rfl) h with hcs | ⟨b, l, c, hcs, hl, hm, hc⟩
  · simp at hcs
    obtain ⟨rfl, rfl, rfl⟩ := hcs
    exact ⟨[], rfl, .inl rfl, by decide⟩
  · simp at hcs
    obtain ⟨rfl, rfl, rfl⟩ := hcs
    have hcell : ∀ i, i < len → ∃ f : Fld, w.cell? (b.add (i * 3)) = some (.int .i64 f.size) ∧ w.cell? (b.add (i * 3 + 1)) = some (.bool f.choice) ∧ w.cell? (b.add (i * 3 + 2)) = some (.int .i64 f.els) := by
      intro i hi
      obtain ⟨v0, n0, y0, c0, t0⟩ := hc i hi 0 _ rfl
      obtain ⟨v1, n1, y1, c1, t1⟩ := hc i hi 1 _ rfl
      obtain ⟨v2, n2, y2, c2, t2⟩ := hc i hi 2 _ rfl
      obtain ⟨z0, e0, _⟩ := DataW.trod_int Tryd.underlying3 t0
      obtain ⟨z1, e1, _⟩ := DataW.trod_bool Tryd.underlying4 t1
      obtain ⟨z2, e2, _⟩ := DataW.trod_int Tryd.underlying3 t2
      injection e0 with e0
      injection e1 with e1
      injection e2 with e2
      subst e0 e1 e2
      exact ⟨⟨z0, z1, z2⟩, c0, c1, c2⟩
    haveI : Inhabited Fld := ⟨⟨0, false, 0⟩⟩
    obtain ⟨g, hg⟩ := choose_lt hcell
    refine ⟨(List.range len).map g, by simp, ?_, Nat.le_trans hl hm⟩
    by_cases h0 : len = 0
    · subst h0; exact .inl rfl
    · refine .inr ⟨b, rfl, ?_, fun k f hk => ?_⟩
      · have := World.block_lt_of_cell? w _ (hg 0 (by omega)).1
        rwa [addr_block] at this
      · rw [List.getElem?_map] at hk
        by_cases hlt : k < len
        · rw [List.getElem?_range hlt] at hk
          injection hk with hk
          subst hk
          obtain ⟨c0, c1, c2⟩ := hg k hlt
          exact ⟨c0, by rw [add_off2 _ _ 1 (by decide)]; exact c1, by rw [add_off2 _ _ 2 (by decide)]; exact c2⟩
        · rw [List.getElem?_eq_none (by simpa using hlt)] at hk; cases hk
end
end Go.Proofs.YtfgebmmnlneciaaDoor
