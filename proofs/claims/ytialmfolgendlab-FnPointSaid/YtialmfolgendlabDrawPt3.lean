/- The specification's DrawPointGet: some text, of at most eight bytes. -/
import Derived.Test.YtialmfolgendlabDrawPt2
namespace Go.Proofs.Ytialmfolgendlab
open Go.RowKit
theorem byte_of (v : Int) (h0 : 0 ≤ v) (h1 : v ≤ 255) : ∃ b : UInt8, v = (b.toNat : Int) := ⟨UInt8.ofNat v.toNat, by rw [UInt8.toNat_ofNat']; omega⟩
theorem l2PutOk_any (k o d p s c g : Int) (t : Bool) (w : World) (hok : ptOk k o d p s c g t = true) :
    Calls Try.prog 39 #[ptv k o d p s c g t] w fun e w' => ∃ u : ByteArray, u.size = 8 ∧ e = .returned (.string u) ∧ Below w.heap.size w w' := by
  have h8 : ∀ a b : List UInt8, a.length = 4 → b.length = 4 → (⟨(a ++ b).toArray⟩ : ByteArray).size = 8 := fun a b ha hb => by simp [ByteArray.size, ha, hb]
  rcases pt_parts hok with ⟨rfl, rfl, rfl, rfl, rfl, rfl, rfl, rfl⟩ | ⟨rfl, h0, h1, hd0, hd1, hp0, hp1, rfl, rfl, rfl, rfl⟩ | ⟨rfl, h0, h1, rfl, rfl, hz0, hz1, hc0, hc1, rfl, rfl⟩ | ⟨rfl, h0, h1, rfl, rfl, rfl, rfl, hg0, hg1⟩
  · exact (l2Put_non w).mono fun e w' ⟨h1, h2⟩ => ⟨_, by simp [ByteArray.size, leB_length], h1, h2⟩
  · exact (l2Put_str o d p w h0 h1 hd0 hd1 hp0 hp1).mono fun e w' ⟨h1, h2⟩ => ⟨_, h8 _ _ (leB_length _ _) (leB_length _ _), h1, h2⟩
  · exact (l2Put_lis o s c w h0 h1 hz0 hz1 hc0 hc1).mono fun e w' ⟨h1, h2⟩ => ⟨_, h8 _ _ (leB_length _ _) (leB_length _ _), h1, h2⟩
  · cases t
    · exact (l2Put_far0 o g w h0 h1).mono fun e w' ⟨h1, h2⟩ => ⟨_, h8 _ _ (leB_length _ _) (leB_length _ _), h1, h2⟩
    · exact (l2Put_far1 o g w h0 h1).mono fun e w' ⟨h1, h2⟩ => ⟨_, h8 _ _ (leB_length _ _) (leB_length _ _), h1, h2⟩
def DrawPG (w : World) (e : Ending) (w' : World) : Prop := ∃ u : ByteArray, u.size ≤ 8 ∧ e = .returned (.string u) ∧ Below w.heap.size w w'
set_option maxHeartbeats 4000000 in
theorem drawPointGet_any (a : Option Addr) (len cap : Nat) (w : World) (h : Arg w a len cap) :
    Calls Try.prog 18 #[.slice a len cap] w (DrawPG w) := by
  go_enter Try.func18, Try.ntmps18
  go_wp2_with fail
  refine (l1Open_any a len cap _ h.1 h.2.1 h.2.2).mono ?_
  rintro e w1 ⟨R, rfl, hR, hrd, hb1⟩
  go_wp2_with fail
  refine (pick_any R 0 _ _ hrd (by omega)).mono ?_
  rintro e w2 ⟨v, ⟨hv0, hv1⟩, rfl, hp2⟩
  by_cases v0 : v = 0
  · subst v0
    go_wp2_with fail
    refine (l13Point_any R 1 _ hp2.1 (by omega)).mono ?_
    rintro e w3 ⟨k, o, d, p, s, c, g, t, hok, rfl, hp3⟩
    go_wp2_with fail
    refine (l2PutOk_any k o d p s c g t _ hok).mono ?_
    rintro e w4 ⟨u, hu, rfl, hb4⟩
    go_wp2
    go_ret
    exact ⟨u, by omega, rfl, opened_below hR hb1 ((hp2.then hp3).below hb4)⟩
  have b0 : (v == 0) = false := by simp; omega
  by_cases v1 : v = 1
  · subst v1
    go_wp2_with (go_at_call 47; go_must (refine (l1Many_any _ _ _ (by decide) (by decide) (by decide) (by decide)).mono ?_); rintro e w' ⟨rfl, rfl⟩)
    refine (of_any R 1 w2.heap.size 4 4 (fun u => u.size ≤ 8) _ _ (by exact hp2.1.below ((Below.refl _ _).alloc (Nat.le_refl _) _)) (by omega) (by exact Lits.new _ _ _ _) (by
      intro v hv
      simp at hv
      rcases hv with rfl | rfl | rfl | rfl
      all_goals exact ⟨_, rfl, by simp [ByteArray.size, repL_length]⟩) (by have := hp2.1.lt; omega) (by simp) (by omega) (by omega)).mono ?_
    rintro e w4 ⟨x, hx, rfl, hp4⟩
    go_wp2
    go_ret
    exact ⟨x, hx, rfl, opened_below hR hb1 ((hp2.below ((Below.refl _ _).alloc (Nat.le_refl _) _)).then hp4)⟩
  have b1 : (v == 1) = false := by simp; omega
  go_wp2_with fail
  refine (pick_any R 1 _ _ hp2.1 (by omega)).mono ?_
  rintro e w3 ⟨x3, ⟨hx0, hx1⟩, rfl, hp3⟩
  obtain ⟨y3, rfl⟩ := byte_of x3 hx0 (by omega)
  go_wp2_with fail
  refine (pick_any R 2 _ _ hp3.1 (by omega)).mono ?_
  rintro e w4 ⟨x4, ⟨hx0, hx1⟩, rfl, hp4⟩
  obtain ⟨y4, rfl⟩ := byte_of x4 hx0 (by omega)
  go_wp2_with fail
  refine (pick_any R 3 _ _ hp4.1 (by omega)).mono ?_
  rintro e w5 ⟨x5, ⟨hx0, hx1⟩, rfl, hp5⟩
  obtain ⟨y5, rfl⟩ := byte_of x5 hx0 (by omega)
  go_wp2_with fail
  refine (pick_any R 4 _ _ hp5.1 (by omega)).mono ?_
  rintro e w6 ⟨x6, ⟨hx0, hx1⟩, rfl, hp6⟩
  obtain ⟨y6, rfl⟩ := byte_of x6 hx0 (by omega)
  go_wp2_with fail
  refine (pick_any R 5 _ _ hp6.1 (by omega)).mono ?_
  rintro e w7 ⟨x7, ⟨hx0, hx1⟩, rfl, hp7⟩
  obtain ⟨y7, rfl⟩ := byte_of x7 hx0 (by omega)
  have hq := ((((hp2.then hp3).then hp4).then hp5).then hp6).then hp7
  have l3 := y3.toNat_lt
  have l4 := y4.toNat_lt
  have l5 := y5.toNat_lt
  have l6 := y6.toNat_lt
  have l7 := y7.toNat_lt
  have hcv : (convert 22 9 (.slice (some ⟨w7.heap.size, 0, none⟩) 8 8)).run Try.prog (w7.alloc (.cells #[.int .u8 (y3.toNat : Int), .int .u8 (y4.toNat : Int), .int .u8 0, .int .u8 (y5.toNat : Int), .int .u8 (y6.toNat : Int), .int .u8 0, .int .u8 (y7.toNat : Int), .int .u8 0] 5)) = .ok (.string ⟨#[y3, y4, 0, y5, y6, 0, y7, 0]⟩) (w7.alloc (.cells #[.int .u8 (y3.toNat : Int), .int .u8 (y4.toNat : Int), .int .u8 0, .int .u8 (y5.toNat : Int), .int .u8 (y6.toNat : Int), .int .u8 0, .int .u8 (y7.toNat : Int), .int .u8 0] 5)) :=
    convert_wd _ _ _ _ _ _ 8 [y3, y4, 0, y5, y6, 0, y7, 0] rfl Try.underlying22 Try.underlying5 Try.underlying9 (heap_alloc_new w7 _) rfl
  go_wp2
  go_ret
  exact ⟨⟨#[y3, y4, 0, y5, y6, 0, y7, 0]⟩, Nat.le_refl 8, rfl, opened_below hR hb1 (hq.below ((Below.refl _ _).alloc (Nat.le_refl _) _))⟩
end Go.Proofs.Ytialmfolgendlab
