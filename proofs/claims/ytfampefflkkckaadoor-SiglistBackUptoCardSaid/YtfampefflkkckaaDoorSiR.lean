/-
  siglist: twins (made by genSi2.py).
-/
import Derived.Deep.MidRow
import Derived.Deep.RegionHeld
import Derived.Test.YtfampefflkkckaaDoorSiQ
import Derived.Test.YtfampefflkkckaaDoorStep
namespace Go.Proofs.YtfampefflkkckaaDoor
open Go.RowKit Go
set_option linter.unusedVariables false
set_option linter.unusedSimpArgs false
set_option maxRecDepth 100000

/-- What twins answers. -/
def TwinsPost (w : World) (n : Nat) (l : List Lst) (e : Ending) (w' : World) : Prop :=
  ∃ A c, e = .returned (.slice A n c) ∧ ListsOwn w' w.heap.size A n c l ∧ Below w.heap.size w w'
theorem take_map_one {α β : Type} {f : α → β} {l : List α} {i : Nat} {x : α} (h : l[i]? = some x) : (l.take (i + 1)).map f = (l.take i).map f ++ [f x] := by
  rw [List.take_add_one, h]
  simp
set_option maxHeartbeats 16000000 in
theorem twins_any (A : Option Addr) (n c : Nat) (ls : List LM) (w : World) (hL : ListsZ w A n ls) (hc : n ≤ c) (hcm : c ≤ 9223372036854775807) (hn : n ≤ 1000000) (hm : ∀ z ∈ ls, z.n ≤ 3518437208880) (hd : ∀ z ∈ ls, ∀ y ∈ z.is, y.2.length ≤ 1000000000) :
    Calls Tryd.prog 18 #[.slice A n c] w (TwinsPost w n (ls.map LM.lst)) := by
  have HL := Lib.hid hL
  have HM := Lib.hid hm
  have HD := Lib.hid hd
  clear hL hm hd
  go_enter Tryd.func18, Tryd.ntmps18
  go_wp2
  go_loopw [3, 4] (fun u v wl => ∃ (i : Nat) (A2 : Option Addr) (c2 : Nat) (ys : List LM), u = .slice A2 i c2 ∧ v = .int .i64 (i : Int) ∧ i ≤ n ∧ Hid (ys.map LM.lst = (ls.take i).map LM.lst ∧ OwnR wl w.heap.size 41 2 A2 i c2 (ys.flatMap LM.cells) ∧ Lms wl w.heap.size ys ∧ Below w.heap.size w wl)) (fun _ v _ => (n - (intOf v).toNat))
  case atStart => exact ⟨0, none, 0, [], rfl, rfl, Nat.zero_le _, by rw [List.take_zero], OwnR.nil _ _ _ _, Lms.nil _ _, Below.refl _ _⟩
  case round =>
    obtain ⟨i, A2, c2, ys, rfl, rfl, hi, hS⟩ := hrel
    rcases Nat.lt_or_ge i n with hlt | hge
    · have l1 : decide ((i : Int) < (n : Int)) = true := decide_eq_true (by omega)
      have l2 : decide (i < n) = true := decide_eq_true hlt
      obtain ⟨z, b, off, hg, hA, hbl, hr, zs, hz1⟩ := HL.out.at_ hlt
      subst hA
      obtain ⟨za, hza⟩ : ∃ za, z.a = za := ⟨_, rfl⟩
      have hrr := range_below hr hS.2.2.2
      have r0 : wr.cell? ⟨b, off + i * 2, none⟩ = some (.int .u8 (z.k.toNat : Int)) := hrr 0 _ rfl
      have HZN := Lib.hid (HM.out z (List.mem_of_getElem? hg))
      have HZD := Lib.hid (HD.out z (List.mem_of_getElem? hg))
      have K := Lib.hid (And.intro hg (And.intro hz1 (And.intro hr hS)))
      have hzc := Lib.hid (And.intro hz1.c hz1.m)
      obtain ⟨W1, hW1⟩ : ∃ W1, W1 = wr := ⟨_, rfl⟩
      subst hW1
      obtain ⟨G, hG⟩ : ∃ G, G = W1.heap.size := ⟨_, rfl⟩
      have HG := Lib.hid hG
      clear hg hr hrr hz1 hbl hi hS
      go_wp2
      rw [← hG]
      clear hG
      have WB : Hid (∀ W, Below G W1 W → Below w.heap.size w W) := fun W h => K.out.2.2.2.2.2.2.trans ((by rw [HG.out] at h; exact h : Below W1.heap.size W1 W).mono (by exact K.out.2.2.2.2.2.2.size))
      go_loopw [6] (fun v wl => ∃ (k : Nat) (A' : Option Addr) (c' : Nat) (xs : List IM), v = .int .i64 (k : Int) ∧ k ≤ z.n ∧ wl.heap[G]? = some (.cells #[.int .u8 (z.k.toNat : Int), .slice A' k c'] 41) ∧ Hid (xs.map IM.itm = (zs.take k).map IM.itm ∧ OwnR wl (G + 1) 49 17 A' k c' (xs.flatMap IM.cells) ∧ Ims wl (G + 1) xs ∧ Below G W1 wl)) (fun v _ => (z.n - (intOf v).toNat))
      case atStart =>
        refine ⟨0, none, 0, [], rfl, Nat.zero_le _, ?_, by rw [List.take_zero], OwnR.nil _ _ _ _, Ims.nil _ _, ?_⟩
        · rw [HG.out]; exact has_new W1 _
        · rw [HG.out]; exact kp_alloc (Below.refl _ _) _
      case round =>
        obtain ⟨k, A', c', xs, rfl, hk, hh, hX⟩ := hrel
        have hbw := WB.out _ hX.2.2.2
        have hrr := range_below K.out.2.2.1 hbw
        have r1 : wr.cell? ⟨b, off + i * 2 + 1, none⟩ = some (.slice za z.n z.c) := by rw [← hza]; exact hrr 1 _ rfl
        rcases Nat.lt_or_ge k z.n with hlt2 | hge2
        · have l3 : decide ((k : Int) < (z.n : Int)) = true := decide_eq_true (by omega)
          have l4 : decide (k < z.n) = true := decide_eq_true hlt2
          obtain ⟨y, b2, off2, hg2, hA2, hbl2, hr2, hy1⟩ := K.out.2.1.i.at_ hlt2
          rw [hza] at hA2
          subst hA2
          have hyl : y.n ≤ 1000000000 := by
            have h1 := HZD.out y.itm (lm_item K.out.2.1 hg2)
            rw [← hy1.r.1]; exact h1
          obtain ⟨x0, x1, x2, x3, x4, x5, x6, x7, x8, x9, x10, x11, x12, x13, x14, x15, hx⟩ := list16 (l := y.o) hy1.o
          have DAT : Hid (y.itm = ([x0, x1, x2, x3, x4, x5, x6, x7, x8, x9, x10, x11, x12, x13, x14, x15], y.d)) := by unfold Hid IM.itm; rw [hx]
          have KEEP : Hid (∀ W, Below w.heap.size w W → (W.cell? ⟨b, off + i * 2 + 1, none⟩ = some (.slice (some ⟨b2, off2, none⟩) z.n z.c) ∧ W.cell? ⟨b2, off2 + k * 17 + 16, none⟩ = some (.slice y.a y.n y.c) ∧ W.rangeAt b2 (off2 + k * 17) [.int .u8 (x0.toNat : Int), .int .u8 (x1.toNat : Int), .int .u8 (x2.toNat : Int), .int .u8 (x3.toNat : Int), .int .u8 (x4.toNat : Int), .int .u8 (x5.toNat : Int), .int .u8 (x6.toNat : Int), .int .u8 (x7.toNat : Int), .int .u8 (x8.toNat : Int), .int .u8 (x9.toNat : Int), .int .u8 (x10.toNat : Int), .int .u8 (x11.toNat : Int), .int .u8 (x12.toNat : Int), .int .u8 (x13.toNat : Int), .int .u8 (x14.toNat : Int), .int .u8 (x15.toNat : Int)] ∧ Below w.heap.size w W)) := fun W h => by
            refine ⟨?_, data_cell (range_below hr2 h) hy1.o, ?_, h⟩
            · rw [← hza]; exact range_below K.out.2.2.1 h 1 _ rfl
            · intro j v hv
              refine range_below hr2 h j v ?_
              unfold IM.cells itmC
              rw [List.toList_toArray, List.getElem?_append_left (by rw [List.length_map, hy1.o]; have := (List.getElem?_eq_some_iff.1 hv).1; exact this), hx]
              exact hv
          have TW : Hid (∀ W, Below w.heap.size w W → Calls Tryd.prog 10 #[.slice y.a y.n y.c] W (Fresh W y.d)) := fun W h => twin_any y.a y.n y.c y.d W (hy1.r.below h) hyl
          have GI : Hid ((Tryd.prog.info? 47).map (·.size) = some ([.int .u8 (x0.toNat : Int), .int .u8 (x1.toNat : Int), .int .u8 (x2.toNat : Int), .int .u8 (x3.toNat : Int), .int .u8 (x4.toNat : Int), .int .u8 (x5.toNat : Int), .int .u8 (x6.toNat : Int), .int .u8 (x7.toNat : Int), .int .u8 (x8.toNat : Int), .int .u8 (x9.toNat : Int), .int .u8 (x10.toNat : Int), .int .u8 (x11.toNat : Int), .int .u8 (x12.toNat : Int), .int .u8 (x13.toNat : Int), .int .u8 (x14.toNat : Int), .int .u8 (x15.toNat : Int)] : List Value).length) := by unfold Hid; kernel_rfl
          have HKN : Hid (k + 1 ≤ 3518437208880) := by have := HZN.out; unfold Hid; omega
          have HX := Lib.hid (And.intro hX hbw)
          have H2 := Lib.hid hh
          have hg2' := Lib.hid hg2
          clear hX hbw hrr hg2 hr2 hy1 hx hbl2 hyl hh hk
          go_upto_region 9 with fail
          clear r1
          have F2 : Hid (Below w.heap.size w wr.drew ∧ wr.drew.heap[G]? = some (.cells #[.int .u8 (z.k.toNat : Int), .slice A' k c'] 41)) := ⟨kp_drew HX.out.2, has_drew H2.out⟩
          have AFT : Hid (∀ w5, Below wr.drew.heap.size wr.drew w5 → OwnR w5 (G + 1) 49 17 A' k c' (xs.flatMap IM.cells) ∧ Ims w5 (G + 1) xs ∧ Below G W1 w5) := fun w5 h => by
            have h9 : Below wr.heap.size wr w5 := (kp_drew (Below.refl _ _)).trans h
            exact ⟨HX.out.1.2.1.below h9 (Nat.le_refl _), HX.out.1.2.2.1.below h9 (Nat.le_refl _), HX.out.1.2.2.2.trans (h9.mono (by have := block_lt H2.out; omega))⟩
          refine wp_region_held_drew (S := fun W => (W.cell? ⟨b, off + i * 2 + 1, none⟩ = some (.slice (some ⟨b2, off2, none⟩) z.n z.c) ∧ W.cell? ⟨b2, off2 + k * 17 + 16, none⟩ = some (.slice y.a y.n y.c) ∧ W.rangeAt b2 (off2 + k * 17) [.int .u8 (x0.toNat : Int), .int .u8 (x1.toNat : Int), .int .u8 (x2.toNat : Int), .int .u8 (x3.toNat : Int), .int .u8 (x4.toNat : Int), .int .u8 (x5.toNat : Int), .int .u8 (x6.toNat : Int), .int .u8 (x7.toNat : Int), .int .u8 (x8.toNat : Int), .int .u8 (x9.toNat : Int), .int .u8 (x10.toNat : Int), .int .u8 (x11.toNat : Int), .int .u8 (x12.toNat : Int), .int .u8 (x13.toNat : Int), .int .u8 (x14.toNat : Int), .int .u8 (x15.toNat : Int)] ∧ Below w.heap.size w W)) (by kernel_rfl) (KEEP.out _ F2.out.1) (fun hHeld => ?_)
          refine wpAnyH_take (i := 0) (oi := _) (v := ?_) rfl (by kernel_rfl) (by kernel_rfl) (by kernel_rfl) (fun _ _ _ h => h) (Or.inl ⟨by rfl, ?_⟩) hHeld ?_
          rotate_left
          · (intro w hSw; (try dsimp only at hSw); go_simp; (try with_reducible rfl))
          (try simp only [Act.put, List.getElem_toArray, List.getElem_cons_succ, List.getElem_cons_zero, List.setIfInBounds_toArray, List.set_cons_zero, List.set_cons_succ])
          refine wpAnyH_take (i := 2) (oi := _) (v := ?_) rfl (by kernel_rfl) (by kernel_rfl) (by kernel_rfl) (fun _ _ _ h => h) (Or.inl ⟨by rfl, ?_⟩) hHeld ?_
          rotate_left
          · (intro w hSw; (try dsimp only at hSw); go_simp; (try with_reducible rfl))
          (try simp only [Act.put, List.getElem_toArray, List.getElem_cons_succ, List.getElem_cons_zero, List.setIfInBounds_toArray, List.set_cons_zero, List.set_cons_succ])
          refine wpAnyH_take (i := 3) (oi := _) (v := ?_) rfl (by kernel_rfl) (by kernel_rfl) (by kernel_rfl) (fun _ _ _ h => h) (Or.inl ⟨by rfl, ?_⟩) hHeld ?_
          rotate_left
          · (intro w hSw; (try dsimp only at hSw); go_simp; (try with_reducible rfl))
          (try simp only [Act.put, List.getElem_toArray, List.getElem_cons_succ, List.getElem_cons_zero, List.setIfInBounds_toArray, List.set_cons_zero, List.set_cons_succ])
          refine wpAnyH_take (i := 4) (oi := _) (v := ?_) rfl (by kernel_rfl) (by kernel_rfl) (by kernel_rfl) (fun _ _ _ h => h) (Or.inl ⟨by rfl, ?_⟩) hHeld ?_
          rotate_left
          · (intro w hSw; (try dsimp only at hSw); go_simp; (try with_reducible rfl))
          (try simp only [Act.put, List.getElem_toArray, List.getElem_cons_succ, List.getElem_cons_zero, List.setIfInBounds_toArray, List.set_cons_zero, List.set_cons_succ])
          refine wpAnyH_take (i := 5) (oi := _) (v := ?_) rfl (by kernel_rfl) (by kernel_rfl) (by kernel_rfl) (fun _ _ _ h => h) (Or.inl ⟨by rfl, ?_⟩) hHeld ?_
          rotate_left
          · (intro w hSw; (try dsimp only at hSw); go_simp; (try with_reducible rfl))
          (try simp only [Act.put, List.getElem_toArray, List.getElem_cons_succ, List.getElem_cons_zero, List.setIfInBounds_toArray, List.set_cons_zero, List.set_cons_succ])
          refine wpAnyH_take (i := 6) (oi := _) (v := ?_) rfl (by kernel_rfl) (by kernel_rfl) (by kernel_rfl) (fun _ _ _ h => h) (Or.inl ⟨by rfl, ?_⟩) hHeld ?_
          rotate_left
          · (intro w hSw; (try dsimp only at hSw); go_simp; (try with_reducible rfl))
          (try simp only [Act.put, List.getElem_toArray, List.getElem_cons_succ, List.getElem_cons_zero, List.setIfInBounds_toArray, List.set_cons_zero, List.set_cons_succ])
          refine wpAnyH_take (i := 7) (oi := _) (v := ?_) rfl (by kernel_rfl) (by kernel_rfl) (by kernel_rfl) (fun _ _ _ h => h) (Or.inl ⟨by rfl, ?_⟩) hHeld ?_
          rotate_left
          · (intro w hSw; (try dsimp only at hSw); go_simp; (try with_reducible rfl))
          (try simp only [Act.put, List.getElem_toArray, List.getElem_cons_succ, List.getElem_cons_zero, List.setIfInBounds_toArray, List.set_cons_zero, List.set_cons_succ])
          refine wpAnyH_take (i := 8) (oi := _) (v := ?_) rfl (by kernel_rfl) (by kernel_rfl) (by kernel_rfl) (fun _ _ _ h => h) (Or.inl ⟨by rfl, ?_⟩) hHeld ?_
          rotate_left
          · (intro w hSw; (try dsimp only at hSw); go_simp; (try with_reducible rfl))
          (try simp only [Act.put, List.getElem_toArray, List.getElem_cons_succ, List.getElem_cons_zero, List.setIfInBounds_toArray, List.set_cons_zero, List.set_cons_succ])
          refine wpAnyH_take (i := 9) (oi := _) (v := ?_) rfl (by kernel_rfl) (by kernel_rfl) (by kernel_rfl) (fun _ _ _ h => h) (Or.inl ⟨by rfl, ?_⟩) hHeld ?_
          rotate_left
          · (intro w hSw; (try dsimp only at hSw); go_simp; (try with_reducible rfl))
          (try simp only [Act.put, List.getElem_toArray, List.getElem_cons_succ, List.getElem_cons_zero, List.setIfInBounds_toArray, List.set_cons_zero, List.set_cons_succ])
          refine wpAnyH_take (i := 10) (oi := _) (v := _) rfl (by kernel_rfl) (by kernel_rfl) (by kernel_rfl) (fun _ _ _ h => h) (yieldsIf_load_mid (by rfl) _ _ rfl _ _ rfl [.int .u8 (x0.toNat : Int), .int .u8 (x1.toNat : Int), .int .u8 (x2.toNat : Int), .int .u8 (x3.toNat : Int), .int .u8 (x4.toNat : Int), .int .u8 (x5.toNat : Int), .int .u8 (x6.toNat : Int), .int .u8 (x7.toNat : Int), .int .u8 (x8.toNat : Int), .int .u8 (x9.toNat : Int), .int .u8 (x10.toNat : Int), .int .u8 (x11.toNat : Int), .int .u8 (x12.toNat : Int), .int .u8 (x13.toNat : Int), .int .u8 (x14.toNat : Int), .int .u8 (x15.toNat : Int)] (.array 16 5) (fun w hSw => hSw.2.2.1) Tryd.underlying47 rfl GI.out) hHeld ?_
          (try simp only [Act.put, List.getElem_toArray, List.getElem_cons_succ, List.getElem_cons_zero, List.setIfInBounds_toArray, List.set_cons_zero, List.set_cons_succ])
          refine wpAnyH_take (i := 11) (oi := _) (v := ?_) rfl (by kernel_rfl) (by kernel_rfl) (by kernel_rfl) (fun _ _ _ h => h) (Or.inl ⟨by rfl, ?_⟩) hHeld ?_
          rotate_left
          · (intro w hSw; (try dsimp only at hSw); go_simp; (try with_reducible rfl))
          (try simp only [Act.put, List.getElem_toArray, List.getElem_cons_succ, List.getElem_cons_zero, List.setIfInBounds_toArray, List.set_cons_zero, List.set_cons_succ])
          refine wpAnyH_take (i := 12) (oi := _) (v := ?_) rfl (by kernel_rfl) (by kernel_rfl) (by kernel_rfl) (fun _ _ _ h => h) (Or.inl ⟨by rfl, ?_⟩) hHeld ?_
          rotate_left
          · (intro w hSw; (try dsimp only at hSw); go_simp; (try with_reducible rfl))
          (try simp only [Act.put, List.getElem_toArray, List.getElem_cons_succ, List.getElem_cons_zero, List.setIfInBounds_toArray, List.set_cons_zero, List.set_cons_succ])
          refine wpAnyH_take (i := 13) (oi := _) (v := ?_) rfl (by kernel_rfl) (by kernel_rfl) (by kernel_rfl) (fun _ _ _ h => h) (Or.inl ⟨by rfl, ?_⟩) hHeld ?_
          rotate_left
          · (intro w hSw; (try dsimp only at hSw); go_simp; (try with_reducible rfl))
          (try simp only [Act.put, List.getElem_toArray, List.getElem_cons_succ, List.getElem_cons_zero, List.setIfInBounds_toArray, List.set_cons_zero, List.set_cons_succ])
          refine wpAnyH_take (i := 14) (oi := _) (v := ?_) rfl (by kernel_rfl) (by kernel_rfl) (by kernel_rfl) (fun _ _ _ h => h) (Or.inl ⟨by rfl, ?_⟩) hHeld ?_
          rotate_left
          · (intro w hSw; (try dsimp only at hSw); go_simp; (try with_reducible rfl))
          (try simp only [Act.put, List.getElem_toArray, List.getElem_cons_succ, List.getElem_cons_zero, List.setIfInBounds_toArray, List.set_cons_zero, List.set_cons_succ])
          refine wpAnyH_take (i := 15) (oi := _) (v := ?_) rfl (by kernel_rfl) (by kernel_rfl) (by kernel_rfl) (fun _ _ _ h => h) (Or.inl ⟨by rfl, ?_⟩) hHeld ?_
          rotate_left
          · (intro w hSw; (try dsimp only at hSw); go_simp; (try with_reducible rfl))
          (try simp only [Act.put, List.getElem_toArray, List.getElem_cons_succ, List.getElem_cons_zero, List.setIfInBounds_toArray, List.set_cons_zero, List.set_cons_succ])
          refine wpAnyH_take (i := 16) (oi := _) (v := ?_) rfl (by kernel_rfl) (by kernel_rfl) (by kernel_rfl) (fun _ _ _ h => h) (Or.inl ⟨by rfl, ?_⟩) hHeld ?_
          rotate_left
          · (intro w hSw; (try dsimp only at hSw); go_simp; (try with_reducible rfl))
          (try simp only [Act.put, List.getElem_toArray, List.getElem_cons_succ, List.getElem_cons_zero, List.setIfInBounds_toArray, List.set_cons_zero, List.set_cons_succ])
          refine wpAnyH_take (i := 17) (oi := _) (v := ?_) rfl (by kernel_rfl) (by kernel_rfl) (by kernel_rfl) (fun _ _ _ h => h) (Or.inl ⟨by rfl, ?_⟩) hHeld ?_
          rotate_left
          · (intro w hSw; (try dsimp only at hSw); go_simp; (try with_reducible rfl))
          (try simp only [Act.put, List.getElem_toArray, List.getElem_cons_succ, List.getElem_cons_zero, List.setIfInBounds_toArray, List.set_cons_zero, List.set_cons_succ])
          refine wpAnyH_take (i := 18) (oi := _) (v := ?_) rfl (by kernel_rfl) (by kernel_rfl) (by kernel_rfl) (fun _ _ _ h => h) (Or.inl ⟨by rfl, ?_⟩) hHeld ?_
          rotate_left
          · (intro w hSw; (try dsimp only at hSw); go_simp; (try with_reducible rfl))
          (try simp only [Act.put, List.getElem_toArray, List.getElem_cons_succ, List.getElem_cons_zero, List.setIfInBounds_toArray, List.set_cons_zero, List.set_cons_succ])
          refine wpAnyH_take (i := 19) (oi := _) (v := ?_) rfl (by kernel_rfl) (by kernel_rfl) (by kernel_rfl) (fun _ _ _ h => h) (Or.inl ⟨by rfl, ?_⟩) hHeld ?_
          rotate_left
          · (intro w hSw; (try dsimp only at hSw); go_simp; (try with_reducible rfl))
          (try simp only [Act.put, List.getElem_toArray, List.getElem_cons_succ, List.getElem_cons_zero, List.setIfInBounds_toArray, List.set_cons_zero, List.set_cons_succ])
          refine wpAnyH_ready (rs := [1, 20]) (by kernel_rfl) (by simp) ?_
          refine AllReadyH.cons (o := _) rfl (fun K hK => ?_) (AllReadyH.cons (o := _) rfl (fun K hK => ?_) AllReadyH.nil)
          · (try have d1 := (cells_2 F2.out.2).2)
            go_simp
            refine hK.out _ _ (KEEP.out _ F2.out.1) (fun hHeld => ?_)
            clear hK K
            (try simp only [Act.put, List.getElem_toArray, List.getElem_cons_succ, List.getElem_cons_zero, List.setIfInBounds_toArray, List.set_cons_zero, List.set_cons_succ])
            refine wpAnyH_ready (rs := [20]) (by kernel_rfl) (by simp) ?_
            refine AllReadyH.cons (o := _) rfl (fun K hK => ?_) AllReadyH.nil
            go_simp
            refine (TW.out _ (F2.out.1)).mono ?_
            rintro e w5 ⟨A5, n5, c5, rfl, ho5, hb5⟩
            have F5 : Hid (Below w.heap.size w w5 ∧ w5.heap[G]? = some (.cells #[.int .u8 (z.k.toNat : Int), .slice A' k c'] 41)) := ⟨kp_call F2.out.1 hb5, has_below F2.out.2 hb5⟩
            have G5 := Lib.hid (AFT.out w5 hb5)
            have O5 := Lib.hid (And.intro ho5 hb5)
            clear hb5 ho5
            go_wp2_with fail
            refine hK.out _ _ (KEEP.out _ F5.out.1) (fun hHeld => ?_)
            clear hK K
            (try simp only [Act.put, List.getElem_toArray, List.getElem_cons_succ, List.getElem_cons_zero, List.setIfInBounds_toArray, List.set_cons_zero, List.set_cons_succ])
            refine wpAnyH_take (i := 21) (oi := _) (v := ?_) rfl (by kernel_rfl) (by kernel_rfl) (by kernel_rfl) (fun _ _ _ h => h) (Or.inl ⟨by rfl, ?_⟩) hHeld ?_
            rotate_left
            · (intro w hSw; (try dsimp only at hSw); go_simp; (try with_reducible rfl))
            (try simp only [Act.put, List.getElem_toArray, List.getElem_cons_succ, List.getElem_cons_zero, List.setIfInBounds_toArray, List.set_cons_zero, List.set_cons_succ])
            refine wpAnyH_ready (rs := [22]) (by kernel_rfl) (by simp) ?_
            refine AllReadyH.cons (o := _) rfl (fun K hK => ?_) AllReadyH.nil
            go_simp
            have F6 : Hid (Below w.heap.size w (w5.alloc (.cells #[.int .u8 (x0.toNat : Int), .int .u8 (x1.toNat : Int), .int .u8 (x2.toNat : Int), .int .u8 (x3.toNat : Int), .int .u8 (x4.toNat : Int), .int .u8 (x5.toNat : Int), .int .u8 (x6.toNat : Int), .int .u8 (x7.toNat : Int), .int .u8 (x8.toNat : Int), .int .u8 (x9.toNat : Int), .int .u8 (x10.toNat : Int), .int .u8 (x11.toNat : Int), .int .u8 (x12.toNat : Int), .int .u8 (x13.toNat : Int), .int .u8 (x14.toNat : Int), .int .u8 (x15.toNat : Int), .slice A5 n5 c5] 49)) ∧ (w5.alloc (.cells #[.int .u8 (x0.toNat : Int), .int .u8 (x1.toNat : Int), .int .u8 (x2.toNat : Int), .int .u8 (x3.toNat : Int), .int .u8 (x4.toNat : Int), .int .u8 (x5.toNat : Int), .int .u8 (x6.toNat : Int), .int .u8 (x7.toNat : Int), .int .u8 (x8.toNat : Int), .int .u8 (x9.toNat : Int), .int .u8 (x10.toNat : Int), .int .u8 (x11.toNat : Int), .int .u8 (x12.toNat : Int), .int .u8 (x13.toNat : Int), .int .u8 (x14.toNat : Int), .int .u8 (x15.toNat : Int), .slice A5 n5 c5] 49)).heap[G]? = some (.cells #[.int .u8 (z.k.toNat : Int), .slice A' k c'] 41)) := ⟨kp_alloc F5.out.1 _, has_alloc F5.out.2 _⟩
            refine hK.out _ _ (KEEP.out _ F6.out.1) (fun hHeld => ?_)
            clear hK K
            (try simp only [Act.put, List.getElem_toArray, List.getElem_cons_succ, List.getElem_cons_zero, List.setIfInBounds_toArray, List.set_cons_zero, List.set_cons_succ])
            refine wpAnyH_ready (rs := [23]) (by kernel_rfl) (by simp) ?_
            refine AllReadyH.cons (o := _) rfl (fun K hK => ?_) AllReadyH.nil
            have HO6 := Lib.hid (G5.out.1.alloc (.cells #[.int .u8 (x0.toNat : Int), .int .u8 (x1.toNat : Int), .int .u8 (x2.toNat : Int), .int .u8 (x3.toNat : Int), .int .u8 (x4.toNat : Int), .int .u8 (x5.toNat : Int), .int .u8 (x6.toNat : Int), .int .u8 (x7.toNat : Int), .int .u8 (x8.toNat : Int), .int .u8 (x9.toNat : Int), .int .u8 (x10.toNat : Int), .int .u8 (x11.toNat : Int), .int .u8 (x12.toNat : Int), .int .u8 (x13.toNat : Int), .int .u8 (x14.toNat : Int), .int .u8 (x15.toNat : Int), .slice A5 n5 c5] 49))
            refine step_appR item_row (by rfl) _ _ (by rfl) (G + 1) A' k c' _ (by rfl) HO6.out ⟨w5.heap.size, 0, none⟩ 1 1 (#[.int .u8 (x0.toNat : Int), .int .u8 (x1.toNat : Int), .int .u8 (x2.toNat : Int), .int .u8 (x3.toNat : Int), .int .u8 (x4.toNat : Int), .int .u8 (x5.toNat : Int), .int .u8 (x6.toNat : Int), .int .u8 (x7.toNat : Int), .int .u8 (x8.toNat : Int), .int .u8 (x9.toNat : Int), .int .u8 (x10.toNat : Int), .int .u8 (x11.toNat : Int), .int .u8 (x12.toNat : Int), .int .u8 (x13.toNat : Int), .int .u8 (x14.toNat : Int), .int .u8 (x15.toNat : Int), .slice A5 n5 c5] : Array Value).toList (by rfl) rfl (cells_lit _ w5.heap.size _ _ _ (has_new w5 _)) (List.all_eq_true.1 rfl) (by omega) (by have := HKN.out; unfold maxLen; omega) (by have := HKN.out; omega) (by have := block_lt F6.out.2; omega) ?_
            intro g7 c7 w7 ho7 hg7 _
            have hne : some G ≠ blk A' := fun e => by
              have := (G5.out.1.blk_lt e.symm).1
              omega
            have k7 : w7.heap[G]? = some (.cells #[.int .u8 (z.k.toNat : Int), .slice A' k c'] 41) := (hg7.block _ (block_lt F6.out.2) hne).trans F6.out.2
            have hi7 := ((G5.out.2.1.snoc ⟨[x0, x1, x2, x3, x4, x5, x6, x7, x8, x9, x10, x11, x12, x13, x14, x15], y.d, A5, n5, c5⟩ (O5.out.1.lower (by have := block_lt H2.out; exact this)) rfl).below (kp_alloc (Below.refl _ _) _) (Nat.le_refl _)).kept HO6.out (by decide) hg7
            have hb7 : Below G W1 w7 := (G5.out.2.2.alloc (by have := block_lt F5.out.2; omega) _).grown hg7 (by have := block_lt F6.out.2; omega) (fun g hg => Nat.le_trans (Nat.le_succ _) (HO6.out.blk_lt hg).1)
            have F7 : Hid (Below w.heap.size w w7 ∧ w7.heap[G]? = some (.cells #[.int .u8 (z.k.toNat : Int), .slice A' k c'] 41)) := ⟨WB.out _ hb7, k7⟩
            have K7 := Lib.hid (And.intro ho7 (And.intro hi7 hb7))
            clear hne k7 hi7 hb7 ho7 hg7
            refine hK.out _ _ (KEEP.out _ F7.out.1) (fun hHeld => ?_)
            clear hK K
            (try simp only [Act.put, List.getElem_toArray, List.getElem_cons_succ, List.getElem_cons_zero, List.setIfInBounds_toArray, List.set_cons_zero, List.set_cons_succ])
            refine wpAnyH_take (i := 24) (oi := _) (v := ?_) rfl (by kernel_rfl) (by kernel_rfl) (by kernel_rfl) (fun _ _ _ h => h) (Or.inl ⟨by rfl, ?_⟩) hHeld ?_
            rotate_left
            · (intro w hSw; (try dsimp only at hSw); go_simp; (try with_reducible rfl))
            (try simp only [Act.put, List.getElem_toArray, List.getElem_cons_succ, List.getElem_cons_zero, List.setIfInBounds_toArray, List.set_cons_zero, List.set_cons_succ])
            refine wpAnyH_ready (rs := [25]) (by kernel_rfl) (by simp) ?_
            refine AllReadyH.cons (o := _) rfl (fun K hK => ?_) AllReadyH.nil
            have d7 := (cells_2 F7.out.2).2
            have e7 := (free_2 F7.out.2).2
            go_simp
            refine hK.out _ _ (KEEP.out _ (WB.out _ (K7.out.2.2.setCell (Nat.le_refl _) _))) (fun hHeld => ?_)
            clear hK K
            (try simp only [Act.put, List.getElem_toArray, List.getElem_cons_succ, List.getElem_cons_zero, List.setIfInBounds_toArray, List.set_cons_zero, List.set_cons_succ])
            refine wpAnyH_done (by kernel_rfl) ?_ _
            have l5 : IntKind.i64.wrap ((k : Int) + 1) = ((k + 1 : Nat) : Int) := IntWalk.i64_in _ (by have := HKN.out; omega)
            have KK := Lib.hid (And.intro HX.out (And.intro hg2'.out DAT.out))
            clear hHeld d7 e7
            go_wp2
            go_roundw
            case rel =>
              refine ⟨k + 1, some ⟨g7, 0, none⟩, c7, xs ++ [⟨[x0, x1, x2, x3, x4, x5, x6, x7, x8, x9, x10, x11, x12, x13, x14, x15], y.d, A5, n5, c5⟩], rfl, hlt2, (heap_set_at _ _ 1 _ _ _ _ F7.out.2).trans rfl, ?_, ?_, ?_, ?_⟩
              · rw [List.map_append, KK.out.1.1.1, take_map_one KK.out.2.1, KK.out.2.2]; rfl
              · rw [List.flatMap_append]
                exact OwnR.far9 K7.out.1 (grown_one _ _ _ _) (Nat.lt_succ_self _)
              · exact fun z hz => ⟨OwnR.far9 (K7.out.2.1 z hz).1.row (grown_one _ _ _ _) (Nat.lt_succ_self _), (K7.out.2.1 z hz).2⟩
              · exact K7.out.2.2.setCell (Nat.le_refl _) _
            case measure => simp [intOf]; omega
          · go_simp
            refine (TW.out _ (F2.out.1)).mono ?_
            rintro e w5 ⟨A5, n5, c5, rfl, ho5, hb5⟩
            have F5 : Hid (Below w.heap.size w w5 ∧ w5.heap[G]? = some (.cells #[.int .u8 (z.k.toNat : Int), .slice A' k c'] 41)) := ⟨kp_call F2.out.1 hb5, has_below F2.out.2 hb5⟩
            have G5 := Lib.hid (AFT.out w5 hb5)
            have O5 := Lib.hid (And.intro ho5 hb5)
            clear hb5 ho5
            go_wp2_with fail
            refine hK.out _ _ (KEEP.out _ F5.out.1) (fun hHeld => ?_)
            clear hK K
            (try simp only [Act.put, List.getElem_toArray, List.getElem_cons_succ, List.getElem_cons_zero, List.setIfInBounds_toArray, List.set_cons_zero, List.set_cons_succ])
            refine wpAnyH_take (i := 21) (oi := _) (v := ?_) rfl (by kernel_rfl) (by kernel_rfl) (by kernel_rfl) (fun _ _ _ h => h) (Or.inl ⟨by rfl, ?_⟩) hHeld ?_
            rotate_left
            · (intro w hSw; (try dsimp only at hSw); go_simp; (try with_reducible rfl))
            (try simp only [Act.put, List.getElem_toArray, List.getElem_cons_succ, List.getElem_cons_zero, List.setIfInBounds_toArray, List.set_cons_zero, List.set_cons_succ])
            refine wpAnyH_ready (rs := [1, 22]) (by kernel_rfl) (by simp) ?_
            refine AllReadyH.cons (o := _) rfl (fun K hK => ?_) (AllReadyH.cons (o := _) rfl (fun K hK => ?_) AllReadyH.nil)
            · (try have d1 := (cells_2 F5.out.2).2)
              go_simp
              refine hK.out _ _ (KEEP.out _ F5.out.1) (fun hHeld => ?_)
              clear hK K
              (try simp only [Act.put, List.getElem_toArray, List.getElem_cons_succ, List.getElem_cons_zero, List.setIfInBounds_toArray, List.set_cons_zero, List.set_cons_succ])
              refine wpAnyH_ready (rs := [22]) (by kernel_rfl) (by simp) ?_
              refine AllReadyH.cons (o := _) rfl (fun K hK => ?_) AllReadyH.nil
              go_simp
              have F6 : Hid (Below w.heap.size w (w5.alloc (.cells #[.int .u8 (x0.toNat : Int), .int .u8 (x1.toNat : Int), .int .u8 (x2.toNat : Int), .int .u8 (x3.toNat : Int), .int .u8 (x4.toNat : Int), .int .u8 (x5.toNat : Int), .int .u8 (x6.toNat : Int), .int .u8 (x7.toNat : Int), .int .u8 (x8.toNat : Int), .int .u8 (x9.toNat : Int), .int .u8 (x10.toNat : Int), .int .u8 (x11.toNat : Int), .int .u8 (x12.toNat : Int), .int .u8 (x13.toNat : Int), .int .u8 (x14.toNat : Int), .int .u8 (x15.toNat : Int), .slice A5 n5 c5] 49)) ∧ (w5.alloc (.cells #[.int .u8 (x0.toNat : Int), .int .u8 (x1.toNat : Int), .int .u8 (x2.toNat : Int), .int .u8 (x3.toNat : Int), .int .u8 (x4.toNat : Int), .int .u8 (x5.toNat : Int), .int .u8 (x6.toNat : Int), .int .u8 (x7.toNat : Int), .int .u8 (x8.toNat : Int), .int .u8 (x9.toNat : Int), .int .u8 (x10.toNat : Int), .int .u8 (x11.toNat : Int), .int .u8 (x12.toNat : Int), .int .u8 (x13.toNat : Int), .int .u8 (x14.toNat : Int), .int .u8 (x15.toNat : Int), .slice A5 n5 c5] 49)).heap[G]? = some (.cells #[.int .u8 (z.k.toNat : Int), .slice A' k c'] 41)) := ⟨kp_alloc F5.out.1 _, has_alloc F5.out.2 _⟩
              refine hK.out _ _ (KEEP.out _ F6.out.1) (fun hHeld => ?_)
              clear hK K
              (try simp only [Act.put, List.getElem_toArray, List.getElem_cons_succ, List.getElem_cons_zero, List.setIfInBounds_toArray, List.set_cons_zero, List.set_cons_succ])
              refine wpAnyH_ready (rs := [23]) (by kernel_rfl) (by simp) ?_
              refine AllReadyH.cons (o := _) rfl (fun K hK => ?_) AllReadyH.nil
              have HO6 := Lib.hid (G5.out.1.alloc (.cells #[.int .u8 (x0.toNat : Int), .int .u8 (x1.toNat : Int), .int .u8 (x2.toNat : Int), .int .u8 (x3.toNat : Int), .int .u8 (x4.toNat : Int), .int .u8 (x5.toNat : Int), .int .u8 (x6.toNat : Int), .int .u8 (x7.toNat : Int), .int .u8 (x8.toNat : Int), .int .u8 (x9.toNat : Int), .int .u8 (x10.toNat : Int), .int .u8 (x11.toNat : Int), .int .u8 (x12.toNat : Int), .int .u8 (x13.toNat : Int), .int .u8 (x14.toNat : Int), .int .u8 (x15.toNat : Int), .slice A5 n5 c5] 49))
              refine step_appR item_row (by rfl) _ _ (by rfl) (G + 1) A' k c' _ (by rfl) HO6.out ⟨w5.heap.size, 0, none⟩ 1 1 (#[.int .u8 (x0.toNat : Int), .int .u8 (x1.toNat : Int), .int .u8 (x2.toNat : Int), .int .u8 (x3.toNat : Int), .int .u8 (x4.toNat : Int), .int .u8 (x5.toNat : Int), .int .u8 (x6.toNat : Int), .int .u8 (x7.toNat : Int), .int .u8 (x8.toNat : Int), .int .u8 (x9.toNat : Int), .int .u8 (x10.toNat : Int), .int .u8 (x11.toNat : Int), .int .u8 (x12.toNat : Int), .int .u8 (x13.toNat : Int), .int .u8 (x14.toNat : Int), .int .u8 (x15.toNat : Int), .slice A5 n5 c5] : Array Value).toList (by rfl) rfl (cells_lit _ w5.heap.size _ _ _ (has_new w5 _)) (List.all_eq_true.1 rfl) (by omega) (by have := HKN.out; unfold maxLen; omega) (by have := HKN.out; omega) (by have := block_lt F6.out.2; omega) ?_
              intro g7 c7 w7 ho7 hg7 _
              have hne : some G ≠ blk A' := fun e => by
                have := (G5.out.1.blk_lt e.symm).1
                omega
              have k7 : w7.heap[G]? = some (.cells #[.int .u8 (z.k.toNat : Int), .slice A' k c'] 41) := (hg7.block _ (block_lt F6.out.2) hne).trans F6.out.2
              have hi7 := ((G5.out.2.1.snoc ⟨[x0, x1, x2, x3, x4, x5, x6, x7, x8, x9, x10, x11, x12, x13, x14, x15], y.d, A5, n5, c5⟩ (O5.out.1.lower (by have := block_lt H2.out; exact this)) rfl).below (kp_alloc (Below.refl _ _) _) (Nat.le_refl _)).kept HO6.out (by decide) hg7
              have hb7 : Below G W1 w7 := (G5.out.2.2.alloc (by have := block_lt F5.out.2; omega) _).grown hg7 (by have := block_lt F6.out.2; omega) (fun g hg => Nat.le_trans (Nat.le_succ _) (HO6.out.blk_lt hg).1)
              have F7 : Hid (Below w.heap.size w w7 ∧ w7.heap[G]? = some (.cells #[.int .u8 (z.k.toNat : Int), .slice A' k c'] 41)) := ⟨WB.out _ hb7, k7⟩
              have K7 := Lib.hid (And.intro ho7 (And.intro hi7 hb7))
              clear hne k7 hi7 hb7 ho7 hg7
              refine hK.out _ _ (KEEP.out _ F7.out.1) (fun hHeld => ?_)
              clear hK K
              (try simp only [Act.put, List.getElem_toArray, List.getElem_cons_succ, List.getElem_cons_zero, List.setIfInBounds_toArray, List.set_cons_zero, List.set_cons_succ])
              refine wpAnyH_take (i := 24) (oi := _) (v := ?_) rfl (by kernel_rfl) (by kernel_rfl) (by kernel_rfl) (fun _ _ _ h => h) (Or.inl ⟨by rfl, ?_⟩) hHeld ?_
              rotate_left
              · (intro w hSw; (try dsimp only at hSw); go_simp; (try with_reducible rfl))
              (try simp only [Act.put, List.getElem_toArray, List.getElem_cons_succ, List.getElem_cons_zero, List.setIfInBounds_toArray, List.set_cons_zero, List.set_cons_succ])
              refine wpAnyH_ready (rs := [25]) (by kernel_rfl) (by simp) ?_
              refine AllReadyH.cons (o := _) rfl (fun K hK => ?_) AllReadyH.nil
              have d7 := (cells_2 F7.out.2).2
              have e7 := (free_2 F7.out.2).2
              go_simp
              refine hK.out _ _ (KEEP.out _ (WB.out _ (K7.out.2.2.setCell (Nat.le_refl _) _))) (fun hHeld => ?_)
              clear hK K
              (try simp only [Act.put, List.getElem_toArray, List.getElem_cons_succ, List.getElem_cons_zero, List.setIfInBounds_toArray, List.set_cons_zero, List.set_cons_succ])
              refine wpAnyH_done (by kernel_rfl) ?_ _
              have l5 : IntKind.i64.wrap ((k : Int) + 1) = ((k + 1 : Nat) : Int) := IntWalk.i64_in _ (by have := HKN.out; omega)
              have KK := Lib.hid (And.intro HX.out (And.intro hg2'.out DAT.out))
              clear hHeld d7 e7
              go_wp2
              go_roundw
              case rel =>
                refine ⟨k + 1, some ⟨g7, 0, none⟩, c7, xs ++ [⟨[x0, x1, x2, x3, x4, x5, x6, x7, x8, x9, x10, x11, x12, x13, x14, x15], y.d, A5, n5, c5⟩], rfl, hlt2, (heap_set_at _ _ 1 _ _ _ _ F7.out.2).trans rfl, ?_, ?_, ?_, ?_⟩
                · rw [List.map_append, KK.out.1.1.1, take_map_one KK.out.2.1, KK.out.2.2]; rfl
                · rw [List.flatMap_append]
                  exact OwnR.far9 K7.out.1 (grown_one _ _ _ _) (Nat.lt_succ_self _)
                · exact fun z hz => ⟨OwnR.far9 (K7.out.2.1 z hz).1.row (grown_one _ _ _ _) (Nat.lt_succ_self _), (K7.out.2.1 z hz).2⟩
                · exact K7.out.2.2.setCell (Nat.le_refl _) _
              case measure => simp [intOf]; omega
            · go_simp
              have F6 : Hid (Below w.heap.size w (w5.alloc (.cells #[.int .u8 (x0.toNat : Int), .int .u8 (x1.toNat : Int), .int .u8 (x2.toNat : Int), .int .u8 (x3.toNat : Int), .int .u8 (x4.toNat : Int), .int .u8 (x5.toNat : Int), .int .u8 (x6.toNat : Int), .int .u8 (x7.toNat : Int), .int .u8 (x8.toNat : Int), .int .u8 (x9.toNat : Int), .int .u8 (x10.toNat : Int), .int .u8 (x11.toNat : Int), .int .u8 (x12.toNat : Int), .int .u8 (x13.toNat : Int), .int .u8 (x14.toNat : Int), .int .u8 (x15.toNat : Int), .slice A5 n5 c5] 49)) ∧ (w5.alloc (.cells #[.int .u8 (x0.toNat : Int), .int .u8 (x1.toNat : Int), .int .u8 (x2.toNat : Int), .int .u8 (x3.toNat : Int), .int .u8 (x4.toNat : Int), .int .u8 (x5.toNat : Int), .int .u8 (x6.toNat : Int), .int .u8 (x7.toNat : Int), .int .u8 (x8.toNat : Int), .int .u8 (x9.toNat : Int), .int .u8 (x10.toNat : Int), .int .u8 (x11.toNat : Int), .int .u8 (x12.toNat : Int), .int .u8 (x13.toNat : Int), .int .u8 (x14.toNat : Int), .int .u8 (x15.toNat : Int), .slice A5 n5 c5] 49)).heap[G]? = some (.cells #[.int .u8 (z.k.toNat : Int), .slice A' k c'] 41)) := ⟨kp_alloc F5.out.1 _, has_alloc F5.out.2 _⟩
              refine hK.out _ _ (KEEP.out _ F6.out.1) (fun hHeld => ?_)
              clear hK K
              (try simp only [Act.put, List.getElem_toArray, List.getElem_cons_succ, List.getElem_cons_zero, List.setIfInBounds_toArray, List.set_cons_zero, List.set_cons_succ])
              refine wpAnyH_ready (rs := [1]) (by kernel_rfl) (by simp) ?_
              refine AllReadyH.cons (o := _) rfl (fun K hK => ?_) AllReadyH.nil
              (try have d1 := (cells_2 F6.out.2).2)
              go_simp
              refine hK.out _ _ (KEEP.out _ F6.out.1) (fun hHeld => ?_)
              clear hK K
              (try simp only [Act.put, List.getElem_toArray, List.getElem_cons_succ, List.getElem_cons_zero, List.setIfInBounds_toArray, List.set_cons_zero, List.set_cons_succ])
              refine wpAnyH_ready (rs := [23]) (by kernel_rfl) (by simp) ?_
              refine AllReadyH.cons (o := _) rfl (fun K hK => ?_) AllReadyH.nil
              have HO6 := Lib.hid (G5.out.1.alloc (.cells #[.int .u8 (x0.toNat : Int), .int .u8 (x1.toNat : Int), .int .u8 (x2.toNat : Int), .int .u8 (x3.toNat : Int), .int .u8 (x4.toNat : Int), .int .u8 (x5.toNat : Int), .int .u8 (x6.toNat : Int), .int .u8 (x7.toNat : Int), .int .u8 (x8.toNat : Int), .int .u8 (x9.toNat : Int), .int .u8 (x10.toNat : Int), .int .u8 (x11.toNat : Int), .int .u8 (x12.toNat : Int), .int .u8 (x13.toNat : Int), .int .u8 (x14.toNat : Int), .int .u8 (x15.toNat : Int), .slice A5 n5 c5] 49))
              refine step_appR item_row (by rfl) _ _ (by rfl) (G + 1) A' k c' _ (by rfl) HO6.out ⟨w5.heap.size, 0, none⟩ 1 1 (#[.int .u8 (x0.toNat : Int), .int .u8 (x1.toNat : Int), .int .u8 (x2.toNat : Int), .int .u8 (x3.toNat : Int), .int .u8 (x4.toNat : Int), .int .u8 (x5.toNat : Int), .int .u8 (x6.toNat : Int), .int .u8 (x7.toNat : Int), .int .u8 (x8.toNat : Int), .int .u8 (x9.toNat : Int), .int .u8 (x10.toNat : Int), .int .u8 (x11.toNat : Int), .int .u8 (x12.toNat : Int), .int .u8 (x13.toNat : Int), .int .u8 (x14.toNat : Int), .int .u8 (x15.toNat : Int), .slice A5 n5 c5] : Array Value).toList (by rfl) rfl (cells_lit _ w5.heap.size _ _ _ (has_new w5 _)) (List.all_eq_true.1 rfl) (by omega) (by have := HKN.out; unfold maxLen; omega) (by have := HKN.out; omega) (by have := block_lt F6.out.2; omega) ?_
              intro g7 c7 w7 ho7 hg7 _
              have hne : some G ≠ blk A' := fun e => by
                have := (G5.out.1.blk_lt e.symm).1
                omega
              have k7 : w7.heap[G]? = some (.cells #[.int .u8 (z.k.toNat : Int), .slice A' k c'] 41) := (hg7.block _ (block_lt F6.out.2) hne).trans F6.out.2
              have hi7 := ((G5.out.2.1.snoc ⟨[x0, x1, x2, x3, x4, x5, x6, x7, x8, x9, x10, x11, x12, x13, x14, x15], y.d, A5, n5, c5⟩ (O5.out.1.lower (by have := block_lt H2.out; exact this)) rfl).below (kp_alloc (Below.refl _ _) _) (Nat.le_refl _)).kept HO6.out (by decide) hg7
              have hb7 : Below G W1 w7 := (G5.out.2.2.alloc (by have := block_lt F5.out.2; omega) _).grown hg7 (by have := block_lt F6.out.2; omega) (fun g hg => Nat.le_trans (Nat.le_succ _) (HO6.out.blk_lt hg).1)
              have F7 : Hid (Below w.heap.size w w7 ∧ w7.heap[G]? = some (.cells #[.int .u8 (z.k.toNat : Int), .slice A' k c'] 41)) := ⟨WB.out _ hb7, k7⟩
              have K7 := Lib.hid (And.intro ho7 (And.intro hi7 hb7))
              clear hne k7 hi7 hb7 ho7 hg7
              refine hK.out _ _ (KEEP.out _ F7.out.1) (fun hHeld => ?_)
              clear hK K
              (try simp only [Act.put, List.getElem_toArray, List.getElem_cons_succ, List.getElem_cons_zero, List.setIfInBounds_toArray, List.set_cons_zero, List.set_cons_succ])
              refine wpAnyH_take (i := 24) (oi := _) (v := ?_) rfl (by kernel_rfl) (by kernel_rfl) (by kernel_rfl) (fun _ _ _ h => h) (Or.inl ⟨by rfl, ?_⟩) hHeld ?_
              rotate_left
              · (intro w hSw; (try dsimp only at hSw); go_simp; (try with_reducible rfl))
              (try simp only [Act.put, List.getElem_toArray, List.getElem_cons_succ, List.getElem_cons_zero, List.setIfInBounds_toArray, List.set_cons_zero, List.set_cons_succ])
              refine wpAnyH_ready (rs := [25]) (by kernel_rfl) (by simp) ?_
              refine AllReadyH.cons (o := _) rfl (fun K hK => ?_) AllReadyH.nil
              have d7 := (cells_2 F7.out.2).2
              have e7 := (free_2 F7.out.2).2
              go_simp
              refine hK.out _ _ (KEEP.out _ (WB.out _ (K7.out.2.2.setCell (Nat.le_refl _) _))) (fun hHeld => ?_)
              clear hK K
              (try simp only [Act.put, List.getElem_toArray, List.getElem_cons_succ, List.getElem_cons_zero, List.setIfInBounds_toArray, List.set_cons_zero, List.set_cons_succ])
              refine wpAnyH_done (by kernel_rfl) ?_ _
              have l5 : IntKind.i64.wrap ((k : Int) + 1) = ((k + 1 : Nat) : Int) := IntWalk.i64_in _ (by have := HKN.out; omega)
              have KK := Lib.hid (And.intro HX.out (And.intro hg2'.out DAT.out))
              clear hHeld d7 e7
              go_wp2
              go_roundw
              case rel =>
                refine ⟨k + 1, some ⟨g7, 0, none⟩, c7, xs ++ [⟨[x0, x1, x2, x3, x4, x5, x6, x7, x8, x9, x10, x11, x12, x13, x14, x15], y.d, A5, n5, c5⟩], rfl, hlt2, (heap_set_at _ _ 1 _ _ _ _ F7.out.2).trans rfl, ?_, ?_, ?_, ?_⟩
                · rw [List.map_append, KK.out.1.1.1, take_map_one KK.out.2.1, KK.out.2.2]; rfl
                · rw [List.flatMap_append]
                  exact OwnR.far9 K7.out.1 (grown_one _ _ _ _) (Nat.lt_succ_self _)
                · exact fun z hz => ⟨OwnR.far9 (K7.out.2.1 z hz).1.row (grown_one _ _ _ _) (Nat.lt_succ_self _), (K7.out.2.1 z hz).2⟩
                · exact K7.out.2.2.setCell (Nat.le_refl _) _
              case measure => simp [intOf]; omega
        · have hkm : k = z.n := by omega
          have l3 : decide ((k : Int) < (z.n : Int)) = false := decide_eq_false (by omega)
          have l4 : decide (k < z.n) = false := decide_eq_false (by omega)
          have l5 : IntKind.i64.wrap ((i : Int) + 1) = ((i + 1 : Nat) : Int) := IntWalk.i64_in _ (by omega)
          have hmax : i + 1 ≤ maxLen := by unfold maxLen; omega
          have HGB : Below W1.heap.size W1 wr := by have := hX.2.2.2; rwa [HG.out] at this
          have hGle : w.heap.size ≤ G := by rw [HG.out]; exact K.out.2.2.2.2.2.2.size
          have HIT : Hid (ItemsOwn wr w.heap.size A' k c' z.is) := by
            refine ⟨xs, ?_, hX.2.1.lower (by omega), hX.2.2.1.lower (by omega)⟩
            rw [hX.1, hkm, List.take_of_length_le (by rw [K.out.2.1.i.len]; exact Nat.le_refl _)]
            exact K.out.2.1.e
          have HO6 := Lib.hid ((K.out.2.2.2.2.1.below HGB (Nat.le_refl _)).alloc (.cells #[.int .u8 (z.k.toNat : Int), .slice A' k c'] 41))
          have HLM := Lib.hid ((K.out.2.2.2.2.2.1.below HGB (Nat.le_refl _)).snoc ⟨z.k, z.is, A', k, c'⟩ HIT.out)
          have HBW := Lib.hid hbw
          have H1 : Hid (∀ u ∈ (#[.int .u8 (z.k.toNat : Int), .slice A' k c'] : Array Value).toList, u.oneCell' = true) := List.all_eq_true.1 rfl
          have HBS := Lib.hid hbw.size
          obtain ⟨d0, d1⟩ := cells_2 hh
          clear hbw hX hrr hge2 HGB hkm hGle hh
          go_wp2_with (at_builtin; refine wpList_appL list_row _ _ rfl rfl rfl w.heap.size A2 i c2 _ rfl HO6.out wr.heap.size 1 1 #[.int .u8 (z.k.toNat : Int), .slice A' k c'] _ rfl (has_new wr _) rfl H1.out hmax (by omega) (by have := HBS.out; simp; omega) ?_)
          intro V' c7 w7 ho7 hg7
          have hi7 : Lms w7 w.heap.size (ys ++ [⟨z.k, z.is, A', k, c'⟩]) := (HLM.out.below (kp_alloc (Below.refl _ _) _) (Nat.le_refl _)).kept HO6.out (by decide) (by decide) hg7
          have hb7 : Below w.heap.size w w7 := (kp_alloc HBW.out _).grown hg7 (by have := HBS.out; simp; omega) (fun g hg => (HO6.out.blk_lt hg).1)
          have K7 := Lib.hid (And.intro ho7 (And.intro hi7 hb7))
          clear ho7 hg7 hi7 hb7
          go_wp2
          go_roundw
          case rel =>
            refine ⟨i + 1, V', c7, ys ++ [⟨z.k, z.is, A', k, c'⟩], rfl, rfl, hlt, ?_, ?_, K7.out.2.1, K7.out.2.2⟩
            · rw [List.map_append, K.out.2.2.2.1, take_map_one K.out.1]; rfl
            · rw [List.flatMap_append]; exact K7.out.1
          case measure => simp [intOf]; omega
    · obtain rfl : n = i := by omega
      have l1 : decide ((n : Int) < (n : Int)) = false := decide_eq_false (by omega)
      have l2 : decide (n < n) = false := decide_eq_false (by omega)
      have K := Lib.hid hS
      clear hS hge hi
      go_wp2
      go_ret
      refine ⟨A2, c2, rfl, ⟨ys, ?_, K.out.2.1, K.out.2.2.1⟩, K.out.2.2.2⟩
      rw [K.out.1, List.take_of_length_le (by rw [HL.out.len]; exact Nat.le_refl _)]
end Go.Proofs.YtfampefflkkckaaDoor
