/- A struct as an argument, opened: laws.Pipe. No condition. -/
import Derived.Test.YtliiffpegfkpbabDoorProg
import Derived.Lib.SmallJoins
import Derived.OpenShut
namespace Go.Proofs.YtliiffpegfkpbabDoor
open Go.Joins Go.ChangeShapes Go.WideShapes Go.RowKit Go.Deep
section
variable {H : Type} {enc : TypeId × Value → H} {P : Program} {w : World} {base : Nat} {spare : Nat → Bool} {held : Bool}
set_option maxRecDepth 100000 in
theorem open_pipe_gen {r : Reach} {b0 : Nat} {t : TypeId} {f0 f1 : Field} {v : Value} {d : DataW H} {p : List MemPlace} (hs : P.underlying t = some (.struct #[f0, f1])) (hone : oneCellFields P #[f0, f1] = true) (hC : P.cellsOf t = 2)
    (t0 : P.underlying f0.type = some .string) (t1 : P.underlying f1.type = some .bool)
    (hv : Value.okWide P w r b0 t v) (h : DataW.Trod enc P w base spare held t v d p) :
    ∃ (n0 : ByteArray) (n1 : Bool), v = .agg #[.string n0, .bool n1] ∧ n0.size ≤ maxLen ∧ True := by
  obtain ⟨cs, rfl, hsz⟩ := okWide_struct hs hv
  obtain ⟨l⟩ := cs
  match l, hsz.trans hC with
  | [c0, c1], _ =>
    obtain ⟨fuel, hf⟩ := h
    obtain ⟨xs, n, _, _, _, hlen, hg⟩ := DataW.trod_struct hs hf
    match xs, hlen with
    | [y0, y1], _ =>
      have g0 := hg 0 f0 rfl
      have g1 := hg 1 f1 rfl
      rw [(hone_of hone 0 f0 rfl).1, (hone_of hone 0 f0 rfl).2] at g0
      rw [(hone_of hone 1 f1 rfl).1, (hone_of hone 1 f1 rfl).2] at g1
      simp [Value.cells] at g0 g1
      obtain ⟨z0, e0, _, w0⟩ := DataW.trod_string t0 g0
      obtain ⟨z1, e1, _⟩ := DataW.trod_bool t1 g1
      simp only [List.cons.injEq, and_true] at e0 e1
      subst e0 e1
      exact ⟨z0, z1, rfl, w0, trivial⟩
set_option maxRecDepth 100000 in
set_option maxRecDepth 100000 in
theorem open_pipe {r : Reach} {b0 : Nat} {v : Value} {d : DataW H} {p : List MemPlace} (hv : Value.okWide Tryd.prog w r b0 37 v) (h : DataW.Trod enc Tryd.prog w base spare held 37 v d p) :
    ∃ (n0 : ByteArray) (n1 : Bool), v = .agg #[.string n0, .bool n1] ∧ n0.size ≤ maxLen ∧ True :=
  open_pipe_gen Tryd.underlying37 (by kernel_rfl) (by kernel_rfl) Tryd.underlying9 Tryd.underlying4 hv h
end
end Go.Proofs.YtliiffpegfkpbabDoor
