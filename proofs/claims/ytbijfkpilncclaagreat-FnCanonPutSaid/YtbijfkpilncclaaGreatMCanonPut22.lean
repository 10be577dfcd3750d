/- Texts of the proof of the law FnCanonPut, side by side: part 22. -/
import Derived.Test.YtbijfkpilncclaaGreatMCanonPut00
import Derived.Test.YtbijfkpilncclaaGreatMCanonPut01
import Derived.Test.YtbijfkpilncclaaGreatMCanonPut02
import Derived.Test.YtbijfkpilncclaaGreatMCanonPut03
import Derived.Test.YtbijfkpilncclaaGreatMCanonPut04
import Derived.Test.YtbijfkpilncclaaGreatMCanonPut05
import Derived.Test.YtbijfkpilncclaaGreatMCanonPut06
import Derived.Test.YtbijfkpilncclaaGreatMCanonPut07
import Derived.Test.YtbijfkpilncclaaGreatMCanonPut08
import Derived.Test.YtbijfkpilncclaaGreatMCanonPut09
import Derived.Test.YtbijfkpilncclaaGreatMCanonPut10
import Derived.Test.YtbijfkpilncclaaGreatMCanonPut11
import Derived.Test.YtbijfkpilncclaaGreatMCanonPut12
import Derived.Test.YtbijfkpilncclaaGreatMCanonPut13
import Derived.Test.YtbijfkpilncclaaGreatMCanonPut14
import Derived.Test.YtbijfkpilncclaaGreatMCanonPut15
import Derived.Test.YtbijfkpilncclaaGreatMCanonPut16
import Derived.Test.YtbijfkpilncclaaGreatMCanonPut17
import Derived.Test.YtbijfkpilncclaaGreatMCanonPut18
import Derived.Test.YtbijfkpilncclaaGreatMCanonPut19
import Derived.Test.YtbijfkpilncclaaGreatMCanonPut20
import Derived.Test.YtbijfkpilncclaaGreatMCanonPut21
namespace Go.Proofs.YtbijfkpilncclaaGreat
open Go.RowKit
theorem OwS.rowO {w : World} {m c B : Nat} {A : Option Addr} {l : List Nd} {bs : List Nat} (h : OwS w (m + 1) A c l bs) (hnd : bs.Nodup) (hge : ∀ b ∈ bs, B ≤ b) : ∃ q : List NB, q.map (·.1) = l ∧ q.length = l.length ∧ RowO w B (.slice A l.length c) q m ∧ (∀ b ∈ blkB q, b ∈ bs) ∧ ∀ k, (Value.slice A l.length c).ownBlock = some k → k ∈ bs := by
  obtain ⟨q, hq, ho, hb, hr⟩ := h
  rw [hb] at hnd hge
  have hnd' := List.nodup_append.1 hnd
  have hql : q.length = l.length := by rw [← hq, List.length_map]
  rw [← hql]
  have hin : ∀ k, (Value.slice A q.length c).ownBlock = some k → k ∈ blk A := fun k e => by
    cases A with
    | none => simp [Value.ownBlock] at e
    | some x =>
      have e' : k = x.block := by simpa [Value.ownBlock, eq_comm] using e
      rw [e']
      exact List.mem_singleton.2 rfl
  refine ⟨q, hq, rfl, ⟨⟨ho.1, ?_⟩, hr, hnd'.2.1, fun b hm => ⟨hge b (List.mem_append_right _ hm), fun e => hnd'.2.2 b (hin b e.symm) b hm rfl⟩⟩, fun b hm => by rw [hb]; exact List.mem_append_right _ hm, fun k e => by rw [hb]; exact List.mem_append_left _ (hin k e)⟩
  rcases ho.2 with hv | ⟨g, cap, cur, hv, _, h3⟩
  · exact .inl hv
  · refine .inr ⟨g, cap, cur, hv, hge g (List.mem_append_left _ (hin g (by rw [hv]; rfl))), h3⟩
theorem RowO.frame {w w' : World} {B M : Nat} {v : Value} {q : List NB} (h : RowO w B v q M) (hf : ∀ b, (v.ownBlock = some b ∨ b ∈ blkB q) → w'.heap[b]? = w.heap[b]?) : RowO w' B v q M := by
  refine ⟨⟨h.1.1, h.1.2.imp id ?_⟩, fun r hr => (h.2.1 r hr).frame (fun b hb => hf b (.inr (List.mem_flatMap.2 ⟨r, hr, hb⟩))), h.2.2⟩
  rintro ⟨g, cap, cur, hv, hB, hg, hrest⟩
  exact ⟨g, cap, cur, hv, hB, (hf g (.inl (by rw [hv]; rfl))).trans hg, hrest⟩
def extN (z : ByteArray) (y : Nd) : Nd := .mk y.kind (y.data ++ z) y.ptrs y.size y.count y.items
theorem siz_ext (z : ByteArray) (y : Nd) : sizN (extN z y) = sizN y + z.size := by
  rw [sizN_eq, sizN_eq y]
  show (y.data ++ z).size + sizL y.ptrs + sizL y.items = _
  rw [ByteArray.size_append]
  omega
theorem sizL_ext (z : ByteArray) : ∀ l : List Nd, sizL (l.map (extN z)) = sizL l + l.length * z.size
  | [] => by simp [sizL]
  | y :: t => by
    rw [List.map_cons, sizL, sizL, sizL_ext z t, siz_ext, List.length_cons, Nat.succ_mul]
    omega
theorem OwS.only {w w' : World} {m c : Nat} {A : Option Addr} {l : List Nd} {bs gs : List Nat} (h : OwS w m A c l bs) (ho : OnlyIn gs w w') (hd : ∀ b ∈ bs, b ∉ gs) : OwS w' m A c l bs := h.frame _ _ _ _ _ (fun b hb => ho.block b (h.lt _ _ _ _ _ b hb).1 (hd b hb))
def ExR (l : List Nd) (z : ByteArray) (g c m : Nat) (b2 : List Nat) (k : Nat) (wr : World) : Prop :=
  ∃ pre post : List NB, pre.length = k ∧ pre.map (·.1) = (l.take k).map (extN z) ∧ post.map (·.1) = l.drop k ∧ RowG wr g c (pre ++ post) m ∧ ∀ b ∈ blkB (pre ++ post), b ∈ b2
theorem ExR.done {l : List Nd} {z : ByteArray} {g c m : Nat} {b2 : List Nat} {wr : World} (h : ExR l z g c m b2 l.length wr) : ∃ bs, OwS wr (m + 1) (some ⟨g, 0, none⟩) c (l.map (extN z)) bs ∧ bs.Nodup ∧ ∀ b ∈ bs, b = g ∨ b ∈ b2 := by
  obtain ⟨pre, post, h1, h2, h3, h4, h5⟩ := h
  rw [List.drop_length] at h3
  obtain rfl : post = [] := List.map_eq_nil_iff.1 h3
  rw [List.append_nil] at h4 h5
  rw [List.take_of_length_le (Nat.le_refl _)] at h2
  obtain ⟨o1, o2⟩ := h4.own
  rw [h2] at o1
  refine ⟨_, o1, o2, fun b hb => ?_⟩
  rcases List.mem_cons.1 hb with rfl | hb
  · exact .inl rfl
  · exact .inr (h5 b hb)
theorem ExR.at_ {l : List Nd} {z : ByteArray} {g c m k : Nat} {b2 : List Nat} {wr : World} (h : ExR l z g c m b2 k wr) (hk : k < l.length) (hz : l[k].data.size + z.size ≤ maxLen) :
    wr.cell? ⟨g, k * 6 + 1, none⟩ = some (.string l[k].data) ∧ (∀ i, wr.frozen? ⟨g, i, none⟩ = false) ∧ g < wr.heap.size ∧ l.length ≤ c ∧ ExR l z g c m b2 (k + 1) (wr.setCell ⟨g, k * 6 + 1, none⟩ (.string (l[k].data ++ z))) := by
  obtain ⟨pre, post, h1, h2, h3, h4, h5⟩ := h
  subst h1
  have hdrop : l.drop pre.length = l[pre.length] :: l.drop (pre.length + 1) := List.drop_eq_getElem_cons hk
  rw [hdrop] at h3
  cases post with
  | nil =>
    simp at h3
    omega
  | cons r t =>
    rw [List.map_cons] at h3
    injection h3 with e1 e2
    obtain ⟨n0, h0, bs0⟩ := r
    dsimp only at e1
    have hcl := h4.cells
    have hln : l.length = pre.length + (t.length + 1) := by
      have q1 := congrArg List.length e2
      simp at q1; omega
    have hlc : l.length ≤ c := by
      obtain ⟨cur, _, _, hc, _⟩ := h4
      rw [List.length_append, List.length_cons] at hc
      omega
    have hset := h4.set (n' := extN z n0) 1 (.string (n0.data ++ z)) (by decide) rfl (fun f hf hf1 => by
      match f, hf with
      | 0, _ => rfl
      | 1, _ => exact absurd rfl hf1
      | 2, _ => rfl
      | 3, _ => rfl
      | 4, _ => rfl
      | 5, _ => rfl) rfl rfl (by show (n0.data ++ z).size ≤ maxLen; rw [ByteArray.size_append, e1]; exact hz)
    rw [← e1]
    refine ⟨hcl.2.1, hcl.2.2.2.2.2.2, h4.lt.1, hlc, pre ++ [(extN z n0, h0, bs0)], t, by simp, ?_, e2, by rw [List.append_assoc]; exact hset, ?_⟩
    · rw [List.take_succ_eq_append_getElem hk, List.map_append, List.map_append, h2, ← e1]
      rfl
    · intro b hb
      refine h5 b ?_
      have hbl : blkB ((pre ++ [(extN z n0, h0, bs0)]) ++ t) = blkB (pre ++ (n0, h0, bs0) :: t) := by rw [List.append_assoc, List.singleton_append, blkB_app, blkB_app, blkB_cons, blkB_cons]
      rw [← hbl]
      exact hb
theorem ExR.start {w : World} {l : List Nd} {z : ByteArray} {g c m : Nat} {b2 : List Nat} (h : OwS w (m + 1) (some ⟨g, 0, none⟩) c l b2) (hnd : b2.Nodup) : ExR l z g c m b2 0 w ∧ g ∈ b2 := by
  obtain ⟨q, hq, hb, hg⟩ := h.rowG hnd
  exact ⟨⟨[], q, rfl, rfl, hq, hg, fun b hm => by rw [hb]; exact List.mem_cons_of_mem _ hm⟩, by rw [hb]; exact List.mem_cons_self⟩
theorem ExR.below {w w' : World} {l : List Nd} {z : ByteArray} {g c m k : Nat} {b2 : List Nat} (h : ExR l z g c m b2 k w) (hb : Below w.heap.size w w') : ExR l z g c m b2 k w' := by
  obtain ⟨pre, post, h1, h2, h3, h4, h5⟩ := h
  exact ⟨pre, post, h1, h2, h3, h4.below hb, h5⟩
def DrawAl (w : World) (e : Ending) (w' : World) : Prop := ∃ (n : Nd) (h : Hd) (n' : Nd) (h' : Hd), e = .returned (.tuple #[.agg #[.int .i64 n.kind, .string n.data, .slice h.A n.ptrs.length h.a, .int .i64 n.size, .int .i64 n.count, .slice h.B n.items.length h.b], .agg #[.int .i64 n'.kind, .string n'.data, .slice h'.A n'.ptrs.length h'.a, .int .i64 n'.size, .int .i64 n'.count, .slice h'.B n'.items.length h'.b]]) ∧ NdAt w' (FromC w' w.heap.size) 20 n h ∧ sizN n ≤ 400000 ∧ NdAt w' (FromC w' w.heap.size) 20 n' h' ∧ sizN n' ≤ 400000 ∧ Below w.heap.size w w'
theorem OwS.fromC {w : World} {m c B : Nat} {A : Option Addr} {l : List Nd} {bs : List Nat} (h : OwS w m A c l bs) (hge : ∀ b ∈ bs, B ≤ b) : NdsAt w (FromC w B) m A l := (h.nds _ _ _ _ _).weak (fun _ hk => ⟨hge _ hk.1, hk.2⟩)
def BetN (w : World) (B H : Nat) : Nat → Prop := fun k => (B ≤ k ∧ k < H) ∧ Clean w k
theorem NdAt.betN {w : World} {B m : Nat} {n : Nd} {h : Hd} (hn : NdAt w (FromC w B) m n h) : NdAt w (BetN w B w.heap.size) m n h := hn.map' (fun _k hk hs => ⟨⟨hs.1, hk⟩, hs.2⟩) (fun _ _ _ _ hc => hc)
theorem NdAt.keepB {w w' : World} {B H m : Nat} {n : Nd} {h : Hd} (hn : NdAt w (BetN w B H) m n h) (hk : ∀ k, B ≤ k → k < H → w'.heap[k]? = w.heap[k]?) : NdAt w' (BetN w' B H) m n h := hn.map' (fun k _ hs => ⟨hs.1, clean_of hs.2 (hk k hs.1.1 hs.1.2)⟩) (fun _p _ _ hs hc => hc.block (hk _ hs.1.1 hs.1.2))
theorem NdAt.unB {w : World} {B H m : Nat} {n : Nd} {h : Hd} (hn : NdAt w (BetN w B H) m n h) : NdAt w (FromC w B) m n h := hn.weak (fun _ hk => ⟨hk.1.1, hk.2⟩)
theorem siz_more (n : Nd) (z : ByteArray) : sizN (.mk n.kind (n.data ++ z) (n.ptrs ++ [noneNd]) n.size n.count n.items) = sizN n + z.size + 1 := by
  rw [sizN_eq, sizN_eq n]
  show (n.data ++ z).size + sizL (n.ptrs ++ [noneNd]) + sizL n.items = _
  have h0 : sizN noneNd = 0 := by
    rw [sizN_eq]
    show 0 + sizL [] + sizL [] = 0
    rw [sizL_nil]
  rw [ByteArray.size_append, sizL_app, sizL, sizL_nil, h0]
  omega
theorem siz_items (n : Nd) (z : ByteArray) : sizN (.mk n.kind n.data n.ptrs n.size n.count (n.items.map (extN z))) = sizN n + n.items.length * z.size := by
  rw [sizN_eq, sizN_eq n]
  show n.data.size + sizL n.ptrs + sizL (n.items.map (extN z)) = _
  rw [sizL_ext]
  omega
theorem z_size (k : Nat) : (⟨(repL (⟨#[0]⟩ : ByteArray).data.toList k).toArray⟩ : ByteArray).size = k := by
  rw [mk_size, repL_length]
  show 1 * k = k
  omega
end Go.Proofs.YtbijfkpilncclaaGreat
