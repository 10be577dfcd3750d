/- The walk of the law FnPoint: true at every code. -/
import Derived.Test.YtialmfolgendlabDrawPt3
import Derived.Test.YtialmfolgendlabLawPointGet
import Derived.Test.YtialmfolgendlabMathPt
import Derived.Lib.QuietBelow
import Derived.BigQuiet
namespace Go.Proofs.Ytialmfolgendlab
open Go.RowKit
theorem getG_mk (l : List UInt8) (h : l.length = 8) : getG ⟨l.toArray⟩ = getP (leN l 0 4) (leN l 4 4) := by
  rw [getG, if_pos (by simp [ByteArray.size, h])]
/-- a pointer that can be written is read back. -/
theorem pt_back {k o d p s c g : Int} {t : Bool} (hok : ptOk k o d p s c g t = true) : (ptW k o d p s c g t).length = 8 ∧ getG ⟨(ptW k o d p s c g t).toArray⟩ = (k, o, d, p, s, c, g, t) := by
  have hl : (ptW k o d p s c g t).length = 8 := by rw [ptW, if_pos hok, List.length_append, leB_length, leB_length]
  refine ⟨hl, ?_⟩
  rw [getG_mk _ hl, ptW, if_pos hok]
  have hob := offN_bd o
  rcases pt_parts hok with ⟨rfl, rfl, rfl, rfl, rfl, rfl, rfl, rfl⟩ | ⟨rfl, h0, h1, hd0, hd1, hp0, hp1, rfl, rfl, rfl, rfl⟩ | ⟨rfl, h0, h1, rfl, rfl, hz0, hz1, hc0, hc1, rfl, rfl⟩ | ⟨rfl, h0, h1, rfl, rfl, rfl, rfl, hg0, hg1⟩
  · rfl
  · have hz : ¬ (o = 0 ∧ d = 0 ∧ p = 0) := by
      rintro ⟨rfl, rfl, rfl⟩
      simp [ptOk, restOf, fitsOf, zer3] at hok
    obtain ⟨e1, e2⟩ := two_of (offN o) (d + 65536 * p) (by omega) (by omega) (by omega) (by omega)
    exact getP_str o d p _ _ e1 e2 h0 h1 hd0 hd1 hp0 hp1 hz
  · obtain ⟨e1, e2⟩ := two_of (offN o + 1) (c * 8 + s) (by omega) (by omega) (by omega) (by omega)
    exact getP_lis o s c _ _ e1 e2 h0 h1 hz0 hz1 hc0
  · cases t
    · obtain ⟨e1, e2⟩ := two_of (o * 8 + 2) g (by omega) (by omega) (by omega) (by omega)
      exact getP_far o g false _ _ e1 e2 h0
    · obtain ⟨e1, e2⟩ := two_of (o * 8 + 6) g (by omega) (by omega) (by omega) (by omega)
      exact getP_far o g true _ _ e1 e2 h0
/-- what a word says can be written, as that word. -/
theorem word_back (u : ByteArray) : (∃ k o d p s c g : Int, ∃ t : Bool, getG u = (k, o, d, p, s, c, g, t) ∧ ((k = 4) ∨ (k ≠ 4 ∧ ptOk k o d p s c g t = true ∧ (⟨(ptW k o d p s c g t).toArray⟩ : ByteArray) = u))) := by
  by_cases h8 : u.size = 8
  · have hl : u.data.toList.length = 8 := by simpa using h8
    have hG : getG u = getP (leN u.data.toList 0 4) (leN u.data.toList 4 4) := if_pos h8
    have hw := word_two u.data.toList hl
    have l0 := leN_lt u.data.toList 4 0
    have l4 := leN_lt u.data.toList 4 4
    rw [show (256 : Nat) ^ 4 = 4294967296 from rfl] at l0 l4
    have fin : ∀ (k o d p s c g : Int) (t : Bool), ptOk k o d p s c g t = true → loP k o t = ((leN u.data.toList 0 4 : Nat) : Int) → hiP k d p s c g = ((leN u.data.toList 4 4 : Nat) : Int) → (⟨(ptW k o d p s c g t).toArray⟩ : ByteArray) = u := fun k o d p s c g t hok h1 h2 => by
      apply ext_ba
      rw [ptW, if_pos hok, h1, h2, hw]
    rcases getP_put _ _ l0 l4 with ⟨h1, h2, hg⟩ | ⟨o, d, p, hg, ho, hd, hp, hz, e1, e2⟩ | ⟨o, s, c, hg, ho, hs, hc, e1, e2⟩ | ⟨o, g, t, hg, ho, hgg, e1, e2⟩ | hg
    · exact ⟨0, 0, 0, 0, 0, 0, 0, false, hG.trans hg, .inr ⟨by decide, rfl, fin _ _ _ _ _ _ _ _ rfl (by rw [h1]; rfl) (by rw [h2]; rfl)⟩⟩
    · have hok : ptOk 1 o d p 0 0 0 false = true := by simp [ptOk, restOf, fitsOf, inB, withB, zer3]; omega
      exact ⟨1, o, d, p, 0, 0, 0, false, hG.trans hg, .inr ⟨by decide, hok, fin _ _ _ _ _ _ _ _ hok (by rw [loP, if_pos rfl, e1]) (by rw [hiP, if_pos rfl, e2])⟩⟩
    · have hok : ptOk 2 o 0 0 s c 0 false = true := by simp [ptOk, restOf, fitsOf, inB, withB]; omega
      exact ⟨2, o, 0, 0, s, c, 0, false, hG.trans hg, .inr ⟨by decide, hok, fin _ _ _ _ _ _ _ _ hok (by rw [loP, if_neg (by decide), if_pos rfl, e1]) (by rw [hiP, if_neg (by decide), if_pos rfl, e2])⟩⟩
    · have hok : ptOk 3 o 0 0 0 0 g t = true := by simp [ptOk, restOf, fitsOf, withB]; omega
      exact ⟨3, o, 0, 0, 0, 0, g, t, hG.trans hg, .inr ⟨by decide, hok, fin _ _ _ _ _ _ _ _ hok (by rw [loP, if_neg (by decide), if_neg (by decide), if_pos rfl, e1]) (by rw [hiP, if_neg (by decide), if_neg (by decide), if_pos rfl, e2])⟩⟩
    · exact ⟨4, 0, 0, 0, 0, 0, 0, false, hG.trans hg, .inl rfl⟩
  · exact ⟨4, 0, 0, 0, 0, 0, 0, false, if_neg h8, .inl rfl⟩
theorem andThen_ok {α : Type} {R : Result α} {f : α → Value} {v : Value} {w : World} (h : R.andThen (fun b w' => Result.ok (f b) w') = .ok v w) : ∃ b, R = .ok b w ∧ f b = v := by
  cases R with
  | ok b w' => simp [Result.andThen] at h; exact ⟨b, by rw [h.2], h.1⟩
  | halt x w' => simp [Result.andThen] at h
theorem neq_pt (k o d p s c g : Int) (t : Bool) (w : World) : (binOp .neq 24 (.agg #[.int .i64 k, .int .i64 o, .int .i64 d, .int .i64 p, .int .i64 s, .int .i64 c, .int .i64 g, .bool t]) (.agg #[.int .i64 k, .int .i64 o, .int .i64 d, .int .i64 p, .int .i64 s, .int .i64 c, .int .i64 g, .bool t])).run Try.prog w = .ok (.bool false) w := by
  have h := eql_pt k o d p s c g t k o d p s c g t w
  unfold ptv at h
  rw [run_eql_struct] at h
  obtain ⟨b, hb, hv⟩ := andThen_ok (f := fun b => Value.bool b) h
  have hbt : b = true := by simpa [eqP] using hv
  rw [run_neq_struct, hb, hbt]
  rfl
theorem eql_pt' (k o d p s c g : Int) (t : Bool) (w : World) : (binOp .eql 24 (.agg #[.int .i64 k, .int .i64 o, .int .i64 d, .int .i64 p, .int .i64 s, .int .i64 c, .int .i64 g, .bool t]) (.agg #[.int .i64 k, .int .i64 o, .int .i64 d, .int .i64 p, .int .i64 s, .int .i64 c, .int .i64 g, .bool t])).run Try.prog w = .ok (.bool true) w := by
  have h := eql_pt k o d p s c g t k o d p s c g t w
  unfold ptv at h
  rw [h]; simp [eqP]
theorem guard_ptn (op : BinOp) (x y : Operand) (xs ys : Array Value) (w : World) : (eqGuard op 24 x y (.agg xs) (.agg ys)).run Try.prog w = .ok () w := run_eqGuard_agg w _ _ _ _ _ _ (by kernel_rfl)
set_option maxHeartbeats 4000000 in
set_option maxRecDepth 100000 in
theorem walkFnPoint (w : World) (a : Option Addr) (len cap : Nat) (h : Arg w a len cap) (a2 : Option Addr) (len2 cap2 : Nat) (h2 : Arg w a2 len2 cap2) :
    Calls Try.prog 3 #[.slice a len cap, .slice a2 len2 cap2] w fun e w' => e = .returned (.bool true) ∧ Below w.heap.size w w' := by
  have hlen := h.1.1
  have hlen2 := h2.1.1
  unfold maxLen at hlen hlen2
  by_cases hbig : 1048576 < len
  · go_enter Try.func3, Try.ntmps3
    go_wp2
    go_ret
    exact ⟨rfl, Below.refl _ _⟩
  by_cases hbig2 : 1048576 < len2
  · go_enter Try.func3, Try.ntmps3
    go_wp2
    go_ret
    exact ⟨rfl, Below.refl _ _⟩
  go_enter Try.func3, Try.ntmps3
  go_wp2_with fail
  refine (drawPointPut_any a len cap _ h).mono ?_
  rintro e w1 ⟨k, o, d, p, s, c, g, t, rfl, hb1⟩
  have HPP := Lib.hid (fun w => implPointPut_any k o d p s c g t w)
  have HSP := Lib.hid (fun w => specPointPut_any k o d p s c g t w)
  have HIO := Lib.hid (fun w => implPointOk_any k o d p s c g t w)
  have HSO := Lib.hid (fun w => specPointOk_any k o d p s c g t w)
  unfold ptv at HPP HSP HIO HSO ⊢
  go_wp2_with fail
  refine (HPP.out _).mono ?_
  rintro e w2 ⟨rfl, hb2⟩
  have hrow := heap_alloc_new w1 (.cells #[.int .i64 k, .int .i64 o, .int .i64 d, .int .i64 p, .int .i64 s, .int .i64 c, .int .i64 g, .bool t] 24)
  have hr2 := (hb2.block _ (by simp)).trans hrow
  obtain ⟨c0, c1, c2, c3, c4, c5, c6, c7⟩ := cells8 hr2
  have q0 := cell_regrown c0
  have q1 := cell_regrown c1
  have q2 := cell_regrown c2
  have q3 := cell_regrown c3
  have q4 := cell_regrown c4
  have q5 := cell_regrown c5
  have q6 := cell_regrown c6
  have q7 := cell_regrown c7
  replace hb2 : Below w.heap.size w w2 := (hb1.alloc hb1.size _).trans (hb2.mono (by have := hb1.size; simp; omega))
  clear hrow hr2
  cases hok : ptOk k o d p s c g t
  · have hX : ptW k o d p s c g t = [] := by rw [ptW, hok, if_neg (by simp)]
    rw [hX] at HSP ⊢
    rw [hok] at HIO HSO
    clear hX hok
    go_wp2_with fail
    refine wp_region_quiet_below (by kernel_rfl) (by kernel_rfl) ?_
    repeat (first | go_big_quiet_step (first | (go_at_call 14; exact Calls.regrown_of (HSP.out _)) | (go_at_call 15; exact Calls.regrown_of (HIO.out _)) | (go_at_call 16; exact Calls.regrown_of (HSO.out _))) | quiet_step (first | (go_at_call 14; exact Calls.regrown_of (HSP.out _)) | (go_at_call 15; exact Calls.regrown_of (HIO.out _)) | (go_at_call 16; exact Calls.regrown_of (HSO.out _))))
    refine wpQuiet_nil ?_
    intro _ hw'
    obtain ⟨⟨dq, osq⟩, hw''⟩ := hw'
    subst hw''
    replace hb2 := hb2.trans ((below_regrown w2 dq osq).mono hb2.size)
    generalize «Sort».grow (redrawn w2 dq) osq = w2 at hb2 ⊢
    clear q0 q1 q2 q3 q4 q5 q6 q7 c0 c1 c2 c3 c4 c5 c6 c7
    go_wp2_with fail
    have h2' := h2.below hb2
    refine (drawPointGet_any a2 len2 cap2 _ h2').mono ?_
    rintro e w3 ⟨u, hu, rfl, hb3⟩
    replace hb2 := hb2.trans (hb3.mono hb2.size)
    have hum : u.size ≤ maxLen := by unfold maxLen; omega
    obtain ⟨k', o', d', p', s', c', g', t', hgu, hk⟩ := word_back u
    have HIG : Hid (∀ w : World, Calls Try.prog 17 #[.string u] w fun e w' => e = .returned (.agg #[.int .i64 k', .int .i64 o', .int .i64 d', .int .i64 p', .int .i64 s', .int .i64 c', .int .i64 g', .bool t']) ∧ Below w.heap.size w w') := Lib.hid (fun w => by
      have := implPointGet_any u w hum
      rw [hgu] at this; exact this)
    have HSG : Hid (∀ w : World, Calls Try.prog 19 #[.string u] w fun e w' => e = .returned (.agg #[.int .i64 k', .int .i64 o', .int .i64 d', .int .i64 p', .int .i64 s', .int .i64 c', .int .i64 g', .bool t']) ∧ Below w.heap.size w w') := Lib.hid (fun w => by
      have := specPointGet_any u w hum
      rw [hgu] at this; exact this)
    have HIO2 : Hid (∀ w : World, Calls Try.prog 15 #[.agg #[.int .i64 k', .int .i64 o', .int .i64 d', .int .i64 p', .int .i64 s', .int .i64 c', .int .i64 g', .bool t']] w fun e w' => e = .returned (.bool (ptOk k' o' d' p' s' c' g' t')) ∧ Below w.heap.size w w') := Lib.hid (fun w => implPointOk_any k' o' d' p' s' c' g' t' w)
    have HPP2 : Hid (∀ w : World, Calls Try.prog 13 #[.agg #[.int .i64 k', .int .i64 o', .int .i64 d', .int .i64 p', .int .i64 s', .int .i64 c', .int .i64 g', .bool t']] w fun e w' => e = .returned (.string ⟨(ptW k' o' d' p' s' c' g' t').toArray⟩) ∧ Below w.heap.size w w') := Lib.hid (fun w => implPointPut_any k' o' d' p' s' c' g' t' w)
    clear hgu hb3
    go_wp2_with fail
    refine (HIG.out _).mono ?_
    rintro e w4 ⟨rfl, hb4⟩
    replace hb2 := hb2.trans (hb4.mono hb2.size)
    have hqr := heap_alloc_new w4 (.cells #[.int .i64 k', .int .i64 o', .int .i64 d', .int .i64 p', .int .i64 s', .int .i64 c', .int .i64 g', .bool t'] 24)
    have HQ := Lib.hid hqr
    replace hb2 : Below w.heap.size w (w4.alloc (.cells #[.int .i64 k', .int .i64 o', .int .i64 d', .int .i64 p', .int .i64 s', .int .i64 c', .int .i64 g', .bool t'] 24)) := hb2.alloc hb2.size _
    clear hb4 hqr
    go_wp2_with fail
    generalize hW : w4.alloc (.cells #[.int .i64 k', .int .i64 o', .int .i64 d', .int .i64 p', .int .i64 s', .int .i64 c', .int .i64 g', .bool t'] 24) = W at HQ hb2 ⊢
    obtain ⟨c0, c1, c2, c3, c4, c5, c6, c7⟩ := cells8 HQ.out
    have q0 := cell_regrown c0
    have q1 := cell_regrown c1
    have q2 := cell_regrown c2
    have q3 := cell_regrown c3
    have q4 := cell_regrown c4
    have q5 := cell_regrown c5
    have q6 := cell_regrown c6
    have q7 := cell_regrown c7
    have nq := neq_pt k' o' d' p' s' c' g' t'
    have ngd := fun x y => guard_ptn .neq x y
    have HW := Lib.hid hW
    clear hW
    rcases hk with rfl | ⟨hk4, hok', hback⟩
    · refine wp_region_quiet_below (by kernel_rfl) (by kernel_rfl) ?_
      repeat (first | go_big_quiet_step ((go_at_call 19; exact Calls.regrown_of (HSG.out _))) | quiet_step ((go_at_call 19; exact Calls.regrown_of (HSG.out _))))
      refine wpQuiet_nil ?_
      intro _ hw'
      obtain ⟨⟨dq, osq⟩, hw''⟩ := hw'
      subst hw''
      replace hb2 := hb2.trans ((below_regrown W dq osq).mono hb2.size)
      have HQ2 := Lib.hid (((below_regrown W dq osq).block _ (row_lt HQ.out)).trans HQ.out)
      clear q0 q1 q2 q3 q4 q5 q6 q7 c0 c1 c2 c3 c4 c5 c6 c7 HQ HW
      generalize «Sort».grow (redrawn W dq) osq = W2 at hb2 HQ2 ⊢
      obtain ⟨c0, c1, c2, c3, c4, c5, c6, c7⟩ := cells8 HQ2.out
      have q0 := cell_regrown c0
      have q1 := cell_regrown c1
      have q2 := cell_regrown c2
      have q3 := cell_regrown c3
      have q4 := cell_regrown c4
      have q5 := cell_regrown c5
      have q6 := cell_regrown c6
      have q7 := cell_regrown c7
      have eq := eql_pt' 4 o' d' p' s' c' g' t'
      have egd := fun x y => guard_ptn .eql x y
      go_wp2_with fail
      refine wp_region_quiet_below (by kernel_rfl) (by kernel_rfl) ?_
      repeat (first | go_big_quiet_step ((go_at_call 19; exact Calls.regrown_of (HSG.out _))) | quiet_step ((go_at_call 19; exact Calls.regrown_of (HSG.out _))))
      refine wpQuiet_nil ?_
      intro _ hw'
      obtain ⟨⟨dq2, osq2⟩, hw''⟩ := hw'
      subst hw''
      replace hb2 := hb2.trans ((below_regrown W2 dq2 osq2).mono hb2.size)
      go_wp2
      go_ret
      exact ⟨rfl, hb2⟩
    · have bk : (k' == 4) = false := by simpa using hk4
      rw [hok'] at HIO2
      rw [hback] at HPP2
      clear hok' hback hk4
      refine wp_region_quiet_below (by kernel_rfl) (by kernel_rfl) ?_
      repeat (first | go_big_quiet_step ((go_at_call 19; exact Calls.regrown_of (HSG.out _))) | quiet_step ((go_at_call 19; exact Calls.regrown_of (HSG.out _))))
      refine wpQuiet_nil ?_
      intro _ hw'
      obtain ⟨⟨dq, osq⟩, hw''⟩ := hw'
      subst hw''
      replace hb2 := hb2.trans ((below_regrown W dq osq).mono hb2.size)
      have HQ2 := Lib.hid (((below_regrown W dq osq).block _ (row_lt HQ.out)).trans HQ.out)
      clear q0 q1 q2 q3 q4 q5 q6 q7 c0 c1 c2 c3 c4 c5 c6 c7 HQ HW
      generalize «Sort».grow (redrawn W dq) osq = W2 at hb2 HQ2 ⊢
      obtain ⟨c0, c1, c2, c3, c4, c5, c6, c7⟩ := cells8 HQ2.out
      have HQ3 := HQ2
      go_wp2_with fail
      refine (HIO2.out _).mono ?_
      rintro e w5 ⟨rfl, hb5⟩
      have hr5 := (hb5.block _ (row_lt HQ2.out)).trans HQ2.out
      replace hb2 := hb2.trans (hb5.mono hb2.size)
      clear c0 c1 c2 c3 c4 c5 c6 c7 hb5
      obtain ⟨c0, c1, c2, c3, c4, c5, c6, c7⟩ := cells8 hr5
      clear hr5
      go_wp2_with fail
      refine (HPP2.out _).mono ?_
      rintro e w6 ⟨rfl, hb6⟩
      replace hb2 := hb2.trans (hb6.mono hb2.size)
      go_wp2
      go_ret
      exact ⟨rfl, hb2⟩
  · obtain ⟨hl, hgg⟩ := pt_back hok
    have HPG : Hid (∀ w : World, Calls Try.prog 17 #[.string ⟨(ptW k o d p s c g t).toArray⟩] w fun e w' => e = .returned (.agg #[.int .i64 k, .int .i64 o, .int .i64 d, .int .i64 p, .int .i64 s, .int .i64 c, .int .i64 g, .bool t]) ∧ Below w.heap.size w w') := Lib.hid (fun w => by
      have := implPointGet_any ⟨(ptW k o d p s c g t).toArray⟩ w (by unfold maxLen; simp [ByteArray.size, hl])
      rw [hgg] at this; exact this)
    obtain ⟨b0, b1, b2, b3, b4, b5, b6, b7, hx⟩ := len8 hl
    rw [hx] at HSP HPG ⊢
    rw [hok] at HIO HSO
    have npt := neq_pt k o d p s c g t
    have npg := fun x y => guard_ptn .neq x y
    clear hl hgg hx hok
    go_wp2_with fail
    refine wp_region_quiet_below (by kernel_rfl) (by kernel_rfl) ?_
    repeat (first | go_big_quiet_step (first | (go_at_call 14; exact Calls.regrown_of (HSP.out _)) | (go_at_call 15; exact Calls.regrown_of (HIO.out _)) | (go_at_call 16; exact Calls.regrown_of (HSO.out _)) | (go_at_call 17; exact Calls.regrown_of (HPG.out _))) | quiet_step (first | (go_at_call 14; exact Calls.regrown_of (HSP.out _)) | (go_at_call 15; exact Calls.regrown_of (HIO.out _)) | (go_at_call 16; exact Calls.regrown_of (HSO.out _)) | (go_at_call 17; exact Calls.regrown_of (HPG.out _))))
    refine wpQuiet_nil ?_
    intro _ hw'
    obtain ⟨⟨dq, osq⟩, hw''⟩ := hw'
    subst hw''
    replace hb2 := hb2.trans ((below_regrown w2 dq osq).mono hb2.size)
    generalize «Sort».grow (redrawn w2 dq) osq = w2 at hb2 ⊢
    clear q0 q1 q2 q3 q4 q5 q6 q7 c0 c1 c2 c3 c4 c5 c6 c7 npt npg
    go_wp2_with fail
    have h2' := h2.below hb2
    refine (drawPointGet_any a2 len2 cap2 _ h2').mono ?_
    rintro e w3 ⟨u, hu, rfl, hb3⟩
    replace hb2 := hb2.trans (hb3.mono hb2.size)
    have hum : u.size ≤ maxLen := by unfold maxLen; omega
    obtain ⟨k', o', d', p', s', c', g', t', hgu, hk⟩ := word_back u
    have HIG : Hid (∀ w : World, Calls Try.prog 17 #[.string u] w fun e w' => e = .returned (.agg #[.int .i64 k', .int .i64 o', .int .i64 d', .int .i64 p', .int .i64 s', .int .i64 c', .int .i64 g', .bool t']) ∧ Below w.heap.size w w') := Lib.hid (fun w => by
      have := implPointGet_any u w hum
      rw [hgu] at this; exact this)
    have HSG : Hid (∀ w : World, Calls Try.prog 19 #[.string u] w fun e w' => e = .returned (.agg #[.int .i64 k', .int .i64 o', .int .i64 d', .int .i64 p', .int .i64 s', .int .i64 c', .int .i64 g', .bool t']) ∧ Below w.heap.size w w') := Lib.hid (fun w => by
      have := specPointGet_any u w hum
      rw [hgu] at this; exact this)
    have HIO2 : Hid (∀ w : World, Calls Try.prog 15 #[.agg #[.int .i64 k', .int .i64 o', .int .i64 d', .int .i64 p', .int .i64 s', .int .i64 c', .int .i64 g', .bool t']] w fun e w' => e = .returned (.bool (ptOk k' o' d' p' s' c' g' t')) ∧ Below w.heap.size w w') := Lib.hid (fun w => implPointOk_any k' o' d' p' s' c' g' t' w)
    have HPP2 : Hid (∀ w : World, Calls Try.prog 13 #[.agg #[.int .i64 k', .int .i64 o', .int .i64 d', .int .i64 p', .int .i64 s', .int .i64 c', .int .i64 g', .bool t']] w fun e w' => e = .returned (.string ⟨(ptW k' o' d' p' s' c' g' t').toArray⟩) ∧ Below w.heap.size w w') := Lib.hid (fun w => implPointPut_any k' o' d' p' s' c' g' t' w)
    clear hgu hb3
    go_wp2_with fail
    refine (HIG.out _).mono ?_
    rintro e w4 ⟨rfl, hb4⟩
    replace hb2 := hb2.trans (hb4.mono hb2.size)
    have hqr := heap_alloc_new w4 (.cells #[.int .i64 k', .int .i64 o', .int .i64 d', .int .i64 p', .int .i64 s', .int .i64 c', .int .i64 g', .bool t'] 24)
    have HQ := Lib.hid hqr
    replace hb2 : Below w.heap.size w (w4.alloc (.cells #[.int .i64 k', .int .i64 o', .int .i64 d', .int .i64 p', .int .i64 s', .int .i64 c', .int .i64 g', .bool t'] 24)) := hb2.alloc hb2.size _
    clear hb4 hqr
    go_wp2_with fail
    generalize hW : w4.alloc (.cells #[.int .i64 k', .int .i64 o', .int .i64 d', .int .i64 p', .int .i64 s', .int .i64 c', .int .i64 g', .bool t'] 24) = W at HQ hb2 ⊢
    obtain ⟨c0, c1, c2, c3, c4, c5, c6, c7⟩ := cells8 HQ.out
    have q0 := cell_regrown c0
    have q1 := cell_regrown c1
    have q2 := cell_regrown c2
    have q3 := cell_regrown c3
    have q4 := cell_regrown c4
    have q5 := cell_regrown c5
    have q6 := cell_regrown c6
    have q7 := cell_regrown c7
    have nq := neq_pt k' o' d' p' s' c' g' t'
    have ngd := fun x y => guard_ptn .neq x y
    have HW := Lib.hid hW
    clear hW
    rcases hk with rfl | ⟨hk4, hok', hback⟩
    · refine wp_region_quiet_below (by kernel_rfl) (by kernel_rfl) ?_
      repeat (first | go_big_quiet_step ((go_at_call 19; exact Calls.regrown_of (HSG.out _))) | quiet_step ((go_at_call 19; exact Calls.regrown_of (HSG.out _))))
      refine wpQuiet_nil ?_
      intro _ hw'
      obtain ⟨⟨dq, osq⟩, hw''⟩ := hw'
      subst hw''
      replace hb2 := hb2.trans ((below_regrown W dq osq).mono hb2.size)
      have HQ2 := Lib.hid (((below_regrown W dq osq).block _ (row_lt HQ.out)).trans HQ.out)
      clear q0 q1 q2 q3 q4 q5 q6 q7 c0 c1 c2 c3 c4 c5 c6 c7 HQ HW
      generalize «Sort».grow (redrawn W dq) osq = W2 at hb2 HQ2 ⊢
      obtain ⟨c0, c1, c2, c3, c4, c5, c6, c7⟩ := cells8 HQ2.out
      have q0 := cell_regrown c0
      have q1 := cell_regrown c1
      have q2 := cell_regrown c2
      have q3 := cell_regrown c3
      have q4 := cell_regrown c4
      have q5 := cell_regrown c5
      have q6 := cell_regrown c6
      have q7 := cell_regrown c7
      have eq := eql_pt' 4 o' d' p' s' c' g' t'
      have egd := fun x y => guard_ptn .eql x y
      go_wp2_with fail
      refine wp_region_quiet_below (by kernel_rfl) (by kernel_rfl) ?_
      repeat (first | go_big_quiet_step ((go_at_call 19; exact Calls.regrown_of (HSG.out _))) | quiet_step ((go_at_call 19; exact Calls.regrown_of (HSG.out _))))
      refine wpQuiet_nil ?_
      intro _ hw'
      obtain ⟨⟨dq2, osq2⟩, hw''⟩ := hw'
      subst hw''
      replace hb2 := hb2.trans ((below_regrown W2 dq2 osq2).mono hb2.size)
      go_wp2
      go_ret
      exact ⟨rfl, hb2⟩
    · have bk : (k' == 4) = false := by simpa using hk4
      rw [hok'] at HIO2
      rw [hback] at HPP2
      clear hok' hback hk4
      refine wp_region_quiet_below (by kernel_rfl) (by kernel_rfl) ?_
      repeat (first | go_big_quiet_step ((go_at_call 19; exact Calls.regrown_of (HSG.out _))) | quiet_step ((go_at_call 19; exact Calls.regrown_of (HSG.out _))))
      refine wpQuiet_nil ?_
      intro _ hw'
      obtain ⟨⟨dq, osq⟩, hw''⟩ := hw'
      subst hw''
      replace hb2 := hb2.trans ((below_regrown W dq osq).mono hb2.size)
      have HQ2 := Lib.hid (((below_regrown W dq osq).block _ (row_lt HQ.out)).trans HQ.out)
      clear q0 q1 q2 q3 q4 q5 q6 q7 c0 c1 c2 c3 c4 c5 c6 c7 HQ HW
      generalize «Sort».grow (redrawn W dq) osq = W2 at hb2 HQ2 ⊢
      obtain ⟨c0, c1, c2, c3, c4, c5, c6, c7⟩ := cells8 HQ2.out
      have HQ3 := HQ2
      go_wp2_with fail
      refine (HIO2.out _).mono ?_
      rintro e w5 ⟨rfl, hb5⟩
      have hr5 := (hb5.block _ (row_lt HQ2.out)).trans HQ2.out
      replace hb2 := hb2.trans (hb5.mono hb2.size)
      clear c0 c1 c2 c3 c4 c5 c6 c7 hb5
      obtain ⟨c0, c1, c2, c3, c4, c5, c6, c7⟩ := cells8 hr5
      clear hr5
      go_wp2_with fail
      refine (HPP2.out _).mono ?_
      rintro e w6 ⟨rfl, hb6⟩
      replace hb2 := hb2.trans (hb6.mono hb2.size)
      go_wp2
      go_ret
      exact ⟨rfl, hb2⟩
end Go.Proofs.Ytialmfolgendlab
