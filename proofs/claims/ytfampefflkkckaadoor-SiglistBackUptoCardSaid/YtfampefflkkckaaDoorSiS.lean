/-
  siglist: works (made by genSi2.py).
-/
import Derived.Test.YtfampefflkkckaaDoorSiR
import Derived.Test.YtfampefflkkckaaDoorMkw
namespace Go.Proofs.YtfampefflkkckaaDoor
open Go.RowKit Go
set_option linter.unusedVariables false
set_option linter.unusedSimpArgs false
set_option maxRecDepth 100000

def wl0 : List Lst := [(1, [(List.replicate 16 0, List.replicate 32 0)])]
theorem wl0_right : wl0.all rightL = true := by decide
theorem wl0_own : ∀ x ∈ wl0, Own16 x := by
  intro x hx y hy
  obtain rfl : x = (1, [(List.replicate 16 0, List.replicate 32 0)]) := by simpa [wl0] using hx
  obtain rfl : y = (List.replicate 16 0, List.replicate 32 0) := by simpa using hy
  rfl
theorem wl0_len : (allB wl0).length = 76 := by decide +kernel
theorem wl0_read : readQ (allB wl0) = some wl0 := read_write wl0 (fun x hx => ⟨List.all_eq_true.1 wl0_right x hx, wl0_own x hx⟩) (by rw [wl0_len]; omega)
theorem wl0_has1 : hasQ wl0 1 (List.replicate 32 0) = true := by decide +kernel
theorem wl0_has2 : hasQ wl0 2 (List.replicate 32 0) = false := by decide +kernel
set_option maxHeartbeats 4000000 in
theorem works18_any (w : World) (hT : Sizes w) : Calls Tryd.prog 9 #[] w fun e w' => e = .returned (.bool true) ∧ Below w.heap.size w w' := by
  go_enter Tryd.func9, Tryd.ntmps9
  go_wp2_with (refine wpList_mkw _ _ rfl rfl .i64 .i64 32 rfl rfl (by omega) ?_)
  intro w1 ho1 hg1
  have hb1 : Below w.heap.size w w1 := (Below.refl _ _).grown hg1 (Nat.le_refl _) (fun k hk => by cases hk)
  have R1 : OwnR (w1.alloc (.cells #[.int .u8 0, .int .u8 0, .int .u8 0, .int .u8 0, .int .u8 0, .int .u8 0, .int .u8 0, .int .u8 0, .int .u8 0, .int .u8 0, .int .u8 0, .int .u8 0, .int .u8 0, .int .u8 0, .int .u8 0, .int .u8 0, .slice (some ⟨w.heap.size, 0, none⟩) 32 32] 49)) w1.heap.size 49 17 (some ⟨w1.heap.size, 0, none⟩) 1 1 _ := OwnR.lit w1 49 17 #[.int .u8 0, .int .u8 0, .int .u8 0, .int .u8 0, .int .u8 0, .int .u8 0, .int .u8 0, .int .u8 0, .int .u8 0, .int .u8 0, .int .u8 0, .int .u8 0, .int .u8 0, .int .u8 0, .int .u8 0, .int .u8 0, .slice (some ⟨w.heap.size, 0, none⟩) 32 32] 1 (by unfold maxLen; omega) rfl
  have R2 : OwnR ((w1.alloc (.cells #[.int .u8 0, .int .u8 0, .int .u8 0, .int .u8 0, .int .u8 0, .int .u8 0, .int .u8 0, .int .u8 0, .int .u8 0, .int .u8 0, .int .u8 0, .int .u8 0, .int .u8 0, .int .u8 0, .int .u8 0, .int .u8 0, .slice (some ⟨w.heap.size, 0, none⟩) 32 32] 49)).alloc (.cells #[.int .u8 1, .slice (some ⟨w1.heap.size, 0, none⟩) 1 1] 41)) _ 41 2 _ 1 1 _ := OwnR.lit (w1.alloc (.cells #[.int .u8 0, .int .u8 0, .int .u8 0, .int .u8 0, .int .u8 0, .int .u8 0, .int .u8 0, .int .u8 0, .int .u8 0, .int .u8 0, .int .u8 0, .int .u8 0, .int .u8 0, .int .u8 0, .int .u8 0, .int .u8 0, .slice (some ⟨w.heap.size, 0, none⟩) 32 32] 49)) 41 2 #[.int .u8 1, .slice (some ⟨w1.heap.size, 0, none⟩) 1 1] 1 (by unfold maxLen; omega) rfl
  have hz1 := hb1.size
  have IO : ItemsOwn ((w1.alloc (.cells #[.int .u8 0, .int .u8 0, .int .u8 0, .int .u8 0, .int .u8 0, .int .u8 0, .int .u8 0, .int .u8 0, .int .u8 0, .int .u8 0, .int .u8 0, .int .u8 0, .int .u8 0, .int .u8 0, .int .u8 0, .int .u8 0, .slice (some ⟨w.heap.size, 0, none⟩) 32 32] 49)).alloc (.cells #[.int .u8 1, .slice (some ⟨w1.heap.size, 0, none⟩) 1 1] 41)) w.heap.size (some ⟨w1.heap.size, 0, none⟩) 1 1 [(List.replicate 16 0, List.replicate 32 0)] :=
    ⟨[⟨List.replicate 16 0, List.replicate 32 0, some ⟨w.heap.size, 0, none⟩, 32, 32⟩], rfl, (R1.alloc _).lower hz1, fun z hz => by
      obtain rfl : z = _ := by simpa using hz
      exact ⟨(ho1.alloc _).alloc _, rfl⟩⟩
  have LZ : ListsZ ((w1.alloc (.cells #[.int .u8 0, .int .u8 0, .int .u8 0, .int .u8 0, .int .u8 0, .int .u8 0, .int .u8 0, .int .u8 0, .int .u8 0, .int .u8 0, .int .u8 0, .int .u8 0, .int .u8 0, .int .u8 0, .int .u8 0, .int .u8 0, .slice (some ⟨w.heap.size, 0, none⟩) 32 32] 49)).alloc (.cells #[.int .u8 1, .slice (some ⟨w1.heap.size, 0, none⟩) 1 1] 41)) (some ⟨w1.heap.size + 1, 0, none⟩) 1 [⟨1, [(List.replicate 16 0, List.replicate 32 0)], some ⟨w1.heap.size, 0, none⟩, 1, 1⟩] :=
    own_lists (base := w.heap.size) (c := 1) (by
      have h := R2.lower (base' := w.heap.size) (by simp; omega)
      rw [World.size_alloc] at h
      exact h) (fun z hz => by
      obtain rfl : z = _ := by simpa using hz
      exact IO)
  have H := Lib.hid (And.intro LZ (kp_alloc (kp_alloc hb1 (.cells #[.int .u8 0, .int .u8 0, .int .u8 0, .int .u8 0, .int .u8 0, .int .u8 0, .int .u8 0, .int .u8 0, .int .u8 0, .int .u8 0, .int .u8 0, .int .u8 0, .int .u8 0, .int .u8 0, .int .u8 0, .int .u8 0, .slice (some ⟨w.heap.size, 0, none⟩) 32 32] 49)) (.cells #[.int .u8 1, .slice (some ⟨w1.heap.size, 0, none⟩) 1 1] 41)))
  have HT := Lib.hid hT
  clear ho1 hg1 hb1 R1 R2 hz1 IO LZ hT
  go_wp2_with fail
  refine calls_nm fun W2 hW2 => ?_
  rw [hW2] at H
  clear hW2
  have WR : Calls Tryd.prog 19 #[.slice (some ⟨w1.heap.size + 1, 0, none⟩) 1 1] W2 (WritePost W2 wl0) := lwrite_any _ 1 1 _ W2 H.out.1 (by omega) (by omega) (by omega) (fun z hz => by
    obtain rfl : z = _ := by simpa using hz
    show (1 : Nat) ≤ 2000000
    omega) (HT.out.below' H.out.2)
  have WR2 : Hid (Calls Tryd.prog 19 #[.slice (some ⟨w1.heap.size + 1, 0, none⟩) 1 1] W2 fun e w' => (∃ A c, e = .returned (.tuple #[.slice A 76 c, .int .i64 0]) ∧ OwnB w' W2.heap.size A 76 c (allB wl0)) ∧ Below W2.heap.size W2 w') := WR.mono fun e w' h => by
    obtain ⟨h1, h2⟩ := h
    rw [if_pos wl0_right, if_neg (by rw [wl0_len]; omega)] at h1
    obtain ⟨A, n, c, h3, h4⟩ := h1
    obtain rfl : 76 = n := wl0_len.symm.trans h4.len
    exact ⟨⟨A, c, h3, h4⟩, h2⟩
  refine WR2.out.mono ?_
  rintro e W3 ⟨⟨A3, c3, rfl, ho3⟩, hb3⟩
  have H3 := Lib.hid (And.intro ho3 (kp_call H.out.2 hb3))
  have hc3 := Lib.hid ho3.cap
  clear WR WR2 H ho3 hb3
  go_wp2_with fail
  have RD := read_any A3 76 c3 (allB wl0) W3 H3.out.1.rb (HT.out.below' H3.out.2) hc3.out.1 (by omega) (by have := hc3.out.2; unfold maxLen at this; omega)
  have RD2 : Hid (Calls Tryd.prog 11 #[.slice A3 76 c3] W3 fun e w' => (∃ A c, e = .returned (.tuple #[.slice A 1 c, .int .i64 0]) ∧ ListsOwn w' W3.heap.size A 1 c wl0) ∧ Below W3.heap.size W3 w') := RD.mono fun e w' h => by
    obtain ⟨h1, h2⟩ := h
    rw [wl0_read] at h1
    exact ⟨h1, h2⟩
  refine RD2.out.mono ?_
  rintro e W4 ⟨⟨A4, c4, rfl, ls, he, ho4, hi4⟩, hb4⟩
  have H4 := Lib.hid (And.intro (own_lists ho4 hi4) (And.intro ho4.cap (And.intro he (kp_call H3.out.2 hb4))))
  clear RD RD2 hb4 ho4 hi4 he
  have HM : Hid (∀ z ∈ ls, z.n ≤ 100000 ∧ ∀ y ∈ z.is, y.2.length ≤ 1000000000) := fun z hz => by
    have h1 : z.lst ∈ wl0 := by rw [← H4.out.2.2.1]; exact List.mem_map_of_mem hz
    have h2 : z.lst = (1, [(List.replicate 16 0, List.replicate 32 0)]) := by simpa [wl0] using h1
    have h3 : z.is = [(List.replicate 16 0, List.replicate 32 0)] := congrArg Prod.snd h2
    obtain ⟨zs, hz1⟩ := H4.out.1.each z hz
    have h4 := hz1.i.len
    have h5 := congrArg List.length hz1.e
    rw [h3, List.length_map] at h5
    refine ⟨by simp at h5; omega, fun y hy => ?_⟩
    rw [h3] at hy
    obtain rfl : y = (List.replicate 16 0, List.replicate 32 0) := by simpa using hy
    show (List.replicate 32 (0 : UInt8)).length ≤ _
    rw [List.length_replicate]; omega
  have HS : Hid (∀ (W : World) (D : Option Addr) (kd : UInt8), Below W4.heap.size W4 W → RB W D 32 (List.replicate 32 0) → Calls Tryd.prog 14 #[.slice A4 1 c4, .int .u8 (kd.toNat : Int), .slice D 32 32] W fun e w' => e = .returned (.bool (hasQ wl0 kd (List.replicate 32 0))) ∧ Below W.heap.size W w') := fun W D kd hb hD => by
    have h1 := has_any A4 1 c4 ls kd D 32 32 _ W (H4.out.1.below hb) H4.out.2.1.1 (by have := H4.out.2.1.2; unfold maxLen at this; omega) (by omega) (fun z hz => Nat.le_trans (HM.out z hz).1 (by omega)) hD (fun z hz => (HM.out z hz).2)
    rw [H4.out.2.2.1] at h1
    exact h1
  go_wp2_with (refine wpList_mkw _ _ rfl rfl .i64 .i64 32 rfl rfl (by omega) ?_)
  intro W5 ho5 hg5
  have H5 : Hid (Below W4.heap.size W4 W5) := (Below.refl _ _).grown hg5 (Nat.le_refl _) (fun k hk => by cases hk)
  have C5 := Lib.hid (HS.out W5 _ 1 H5.out ho5.rb)
  rw [wl0_has1] at C5
  clear ho5 hg5
  go_wp2_with fail
  refine C5.out.mono ?_
  rintro e W6 ⟨rfl, hb6⟩
  have H6 := Lib.hid (kp_call H5.out hb6)
  clear hb6 C5
  go_wp2_with (refine wpList_mkw _ _ rfl rfl .i64 .i64 32 rfl rfl (by omega) ?_)
  intro W7 ho7 hg7
  have H7 : Hid (Below W4.heap.size W4 W7) := kp_call H6.out ((Below.refl _ _).grown hg7 (Nat.le_refl _) (fun k hk => by cases hk))
  have C7 := Lib.hid (HS.out W7 _ 2 H7.out ho7.rb)
  rw [wl0_has2] at C7
  clear ho7 hg7
  go_wp2_with fail
  refine C7.out.mono ?_
  rintro e W8 ⟨rfl, hb8⟩
  have H8 := Lib.hid (kp_call H7.out hb8)
  clear hb8 C7
  go_wp2
  go_ret
  exact ⟨rfl, kp_call H4.out.2.2.2 H8.out⟩
end Go.Proofs.YtfampefflkkckaaDoor
