/-
  stamp: the theorem of the stage.
-/
import Derived.Test.YtepakdgpaaeelaaDoorStN
namespace Go.Proofs.YtepakdgpaaeelaaDoor
open Go.RowKit Go
set_option linter.unusedVariables false
set_option maxRecDepth 100000
def tsome (u : Tm) : Value := .tuple #[tmV u, .bool true]
theorem opt_none : optV none = .tuple #[.agg #[.int .u16 0, .int .u8 0, .int .u8 0, .int .u8 0, .int .u8 0, .int .u8 0], .bool false] := rfl
theorem opt_some (u : Tm) : optV (some u) = .tuple #[tmV u, .bool true] := rfl
theorem readV_none : readV none = .tuple #[.agg #[.int .u16 0, .int .u8 0, .int .u8 0, .int .u8 0, .int .u8 0, .int .u8 0], .int .i64 9] := rfl
theorem readV_some (u : Tm) : readV (some u) = .tuple #[tmV u, .int .i64 0] := rfl
theorem beq_self {bs : List UInt8} : (bs == bs) = true := by simp
set_option maxHeartbeats 6400000 in
theorem back_row (A : Option Addr) (n c : Nat) (bs : List UInt8) (t : Tm) (w : World) (hI : IsBs w A n c bs) (ht : IsTm w t) (hT : Sizes w) :
    Calls Tryd.prog 5 #[.slice A n c, tmV t] w fun e w' => e = .returned (.bool true) ∧ Below w.heap.size w w' := by
  have hy : t.y < 65536 := ht
  have hR := hI.rb
  have hl1 := hI.le
  have hl2 := hI.max
  unfold maxLen at hl2
  have WK := Lib.hid (fun W (h : Sizes W) => works_any W h)
  by_cases hn : n ≤ 4096
  · have RT := Lib.hid (fun W => right_any t W hy)
    have WR := Lib.hid (fun W (h : Sizes W) => write_any t W h hy)
    have hrd := readO_tmB t hy
    have HL := Lib.hid (tmB_len t)
    have U := Lib.hid (fun W (h : RB W A n bs) => utc_any A n c bs W h (by omega))
    have G := Lib.hid (fun W (h : RB W A n bs) => gen_any A n c bs W h (by omega))
    have RB' := Lib.hid (fun W (h : RB W A n bs) (h2 : Sizes W) => sread_any A n c bs W h hl1 (by omega) h2)
    have hv := Lib.hid (fun u (h : readO bs = some u) => readO_some h)
    have hu := Lib.hid (fun u (h : utcO bs = some u) => utcO_some h)
    have hg := Lib.hid (fun u (h : genO bs = some u) => genO_some h)
    generalize readO bs = rv at RB' hv
    generalize utcO bs = ru at U hu
    generalize genO bs = rg at G hg
    have RDT0 := fun A2 c2 W (h : RB W A2 16 (tmB t)) (h1 : 16 ≤ c2) (h2 : c2 ≤ 9223372036854775807) (h3 : Sizes W) => sread_any A2 16 c2 (tmB t) W h h1 h2 h3
    have ZT : Hid (∀ W, (Op.equalIn 10000 25 (.agg t.cells) (.agg #[.int .u16 0, .int .u8 0, .int .u8 0, .int .u8 0, .int .u8 0, .int .u8 0])).run Tryd.prog W = .ok (decide (t = Tm.zero)) W) := fun W => tm_same t Tm.zero W 9998
    have TT := Lib.hid (fun W => tm_same t t W 9998)
    have e0 : decide (t = t) = true := by simp
    rw [e0] at TT
    clear e0
    have hcase : (rightB t = true ∧ readO (tmB t) = some t) ∨ (rightB t = false ∧ decide (t = Tm.zero) = true ∧ readO (tmB t) = some t) ∨ (rightB t = false ∧ decide (t = Tm.zero) = false ∧ readO (tmB t) = none) := by
      rw [hrd]
      cases hr : rightB t
      · by_cases hz : t = Tm.zero
        · exact .inr (.inl ⟨rfl, decide_eq_true hz, if_pos (.inr hz)⟩)
        · exact .inr (.inr ⟨rfl, decide_eq_false hz, if_neg (by simp [hz])⟩)
      · exact .inl ⟨rfl, if_pos (.inl rfl)⟩
    clear hrd ht hI
    rcases hcase with ⟨h1, h3⟩ | ⟨h1, h2, h3⟩ | ⟨h1, h2, h3⟩
    · rw [h3] at RDT0
      rw [h1] at RT
      rw [readV_some] at RDT0
      have RDT := Lib.hid RDT0
      clear RDT0 h1 h3
      generalize tmB t = tb at WR RDT HL
      unfold tmV Tm.cells at *
      obtain ⟨yt_, mot_, dt_, ht_, mit_, st_⟩ := t
      simp only at *
      go_enter Tryd.func5, Tryd.ntmps5
      go_wp2_with fail
      refine (WR.out _ (hT.alloc _)).mono ?_
      rintro e w1 ⟨A2, n2, c2, rfl, hown1, hb1⟩
      obtain rfl : 16 = n2 := HL.out.symm.trans hown1.len
      have hc2 := hown1.cap
      unfold maxLen at hc2
      have hbw1 : Below w.heap.size w w1 := ((Below.refl _ _).alloc (Nat.le_refl _) _).trans (hb1.mono (by simp))
      have hs1 := hbw1.size
      have kt1 := (hb1.block w.heap.size (by simp)).trans (heap_alloc_new w _)
      clear hb1
      go_wp2_with fail
      refine (RDT.out _ _ _ hown1.rb hc2.1 (by omega) (hT.below' hbw1)).mono ?_
      intro e w2 hw2
      obtain ⟨rfl, hb2⟩ := hw2
      have hbw2 := hbw1.trans (hb2.mono hs1)
      have hs2 := hbw2.size
      have kt2 := (hb2.block _ (heap_lt kt1)).trans kt1
      clear hb2 kt1 hown1 hbw1 hs1
      obtain ⟨ct0, ct1, ct2, ct3, ct4, ct5⟩ := cells6 kt2
      have hlt2 := heap_lt kt2
      go_wp2_with fail
      refine (RT.out _).mono ?_
      intro e w3 hw3
      obtain ⟨rfl, hb3⟩ := hw3
      have hbw3 := (hbw2.alloc hs2 _).trans (hb3.mono (by simp; omega))
      have hs3 := hbw3.size
      have k53 := (hb3.block w2.heap.size (by simp)).trans (heap_alloc_new w2 _)
      have kt3 := (hb3.block w.heap.size (by simp; omega)).trans ((heap_alloc_old w2 _ hlt2).trans kt2)
      have hg5 := hs2
      clear ct0 ct1 ct2 ct3 ct4 ct5
      clear hb3 kt2 hlt2 hbw2
      obtain ⟨g5, hG⟩ : ∃ g5, w2.heap.size = g5 := ⟨_, rfl⟩
      rw [hG] at k53 hg5 ⊢
      clear hG hs2
      obtain ⟨ct0, ct1, ct2, ct3, ct4, ct5⟩ := cells6 kt3
      obtain ⟨cu0, cu1, cu2, cu3, cu4, cu5⟩ := cells6 k53
      obtain ⟨cf0, cf1, cf2, cf3, cf4, cf5⟩ := free6 k53
      have tt := TT.out
      cases rv with
      | none =>
        rw [readV_none] at RB'
        go_wp2_with fail
        refine (RB'.out _ (hR.below hbw3) (hT.below' hbw3)).mono ?_
        intro e w4 hw4
        obtain ⟨rfl, hb4⟩ := hw4
        have hbw4 := hbw3.trans (hb4.mono hs3)
        have hs4 := hbw4.size
        have k54 := (hb4.block _ (heap_lt k53)).trans k53
        clear ct0 ct1 ct2 ct3 ct4 ct5 cu0 cu1 cu2 cu3 cu4 cu5 cf0 cf1 cf2 cf3 cf4 cf5
        clear hb4 kt3 k53 hbw3 hs3 tt
        obtain ⟨cu0, cu1, cu2, cu3, cu4, cu5⟩ := cells6 k54
        obtain ⟨cf0, cf1, cf2, cf3, cf4, cf5⟩ := free6 k54
        go_wp2_with fail
        refine calls_named fun w6 hw6 => ?_
        have hbw6 : Below w.heap.size w w6 := below_named hw6 (below6 hbw4 hg5)
        have hs6 := hbw6.size
        have k56 := heap_named hw6 (set6 k54)
        clear cu0 cu1 cu2 cu3 cu4 cu5 cf0 cf1 cf2 cf3 cf4 cf5
        clear hw6 k54 hbw4 hs4
        cases ru with
        | none =>
          rw [opt_none] at U
          refine (U.out _ (hR.below hbw6)).mono ?_
          intro e w7 hw7
          obtain ⟨rfl, hb7⟩ := hw7
          have hbw7 := hbw6.trans (hb7.mono hs6)
          have hs7 := hbw7.size
          have k57 := (hb7.block _ (heap_lt k56)).trans k56
          clear hb7 k56 hbw6 hs6
          obtain ⟨cu0, cu1, cu2, cu3, cu4, cu5⟩ := cells6 k57
          obtain ⟨cf0, cf1, cf2, cf3, cf4, cf5⟩ := free6 k57
          go_wp2_with fail
          refine calls_named fun w9 hw9 => ?_
          have hbw9 : Below w.heap.size w w9 := below_named hw9 (below6 hbw7 hg5)
          have hs9 := hbw9.size
          have k59 := heap_named hw9 (set6 k57)
          clear cu0 cu1 cu2 cu3 cu4 cu5 cf0 cf1 cf2 cf3 cf4 cf5
          clear hw9 k57 hbw7 hs7
          obtain ⟨cu0, cu1, cu2, cu3, cu4, cu5⟩ := cells6 k59
          obtain ⟨cf0, cf1, cf2, cf3, cf4, cf5⟩ := free6 k59
          cases rg with
          | none =>
            rw [opt_none] at G
            refine (G.out _ (hR.below hbw9)).mono ?_
            intro e w10 hw10
            obtain ⟨rfl, hb10⟩ := hw10
            have hbw10 := hbw9.trans (hb10.mono hs9)
            have hs10 := hbw10.size
            have k510 := (hb10.block _ (heap_lt k59)).trans k59
            clear hb10 k59 hbw9 hs9
            clear cu0 cu1 cu2 cu3 cu4 cu5 cf0 cf1 cf2 cf3 cf4 cf5
            obtain ⟨cu0, cu1, cu2, cu3, cu4, cu5⟩ := cells6 k510
            obtain ⟨cf0, cf1, cf2, cf3, cf4, cf5⟩ := free6 k510
            go_wp2_with fail
            refine calls_named fun w11 hw11 => ?_
            have hbw11 : Below w.heap.size w w11 := below_named hw11 (below6 hbw10 hg5)
            have hs11 := hbw11.size
            clear cu0 cu1 cu2 cu3 cu4 cu5 cf0 cf1 cf2 cf3 cf4 cf5
            clear hw11 k510 hbw10 hs10
            refine (WK.out _ (hT.below' hbw11)).mono ?_
            intro e w13 hw13
            obtain ⟨rfl, hb13⟩ := hw13
            have hbw13 := hbw11.trans (hb13.mono hs11)
            clear hb13
            go_wp2
            go_ret
            exact ⟨rfl, hbw13⟩
          | some p =>
            have hgr := hg.out _ rfl
            have RG := Lib.hid (fun W => right_any p W (by have := right_year hgr; omega))
            rw [hgr] at RG
            rw [opt_some] at G
            clear hgr
            unfold tmV Tm.cells at RG G
            obtain ⟨yp_, mop_, dp_, hp_, mip_, sp_⟩ := p
            simp only at RG G
            refine (G.out _ (hR.below hbw9)).mono ?_
            intro e w10 hw10
            obtain ⟨rfl, hb10⟩ := hw10
            have hbw10 := hbw9.trans (hb10.mono hs9)
            have hs10 := hbw10.size
            have k510 := (hb10.block _ (heap_lt k59)).trans k59
            clear hb10 k59 hbw9 hs9
            clear cu0 cu1 cu2 cu3 cu4 cu5 cf0 cf1 cf2 cf3 cf4 cf5
            obtain ⟨cu0, cu1, cu2, cu3, cu4, cu5⟩ := cells6 k510
            obtain ⟨cf0, cf1, cf2, cf3, cf4, cf5⟩ := free6 k510
            go_wp2_with fail
            refine calls_named fun w11 hw11 => ?_
            have hbw11 : Below w.heap.size w w11 := below_named hw11 (below6 hbw10 hg5)
            have hs11 := hbw11.size
            clear cu0 cu1 cu2 cu3 cu4 cu5 cf0 cf1 cf2 cf3 cf4 cf5
            clear hw11 k510 hbw10 hs10
            refine (RG.out _).mono ?_
            intro e w12 hw12
            obtain ⟨rfl, hb12⟩ := hw12
            have hbw12 := hbw11.trans (hb12.mono hs11)
            have hs12 := hbw12.size
            clear hb12
            go_wp2_with fail
            refine (WK.out _ (hT.below' hbw12)).mono ?_
            intro e w13 hw13
            obtain ⟨rfl, hb13⟩ := hw13
            have hbw13 := hbw12.trans (hb13.mono hs12)
            clear hb13
            go_wp2
            go_ret
            exact ⟨rfl, hbw13⟩
        | some u =>
          obtain ⟨hur, hu1, hu2⟩ := hu.out _ rfl
          have RU := Lib.hid (fun W => right_any u W (by omega))
          rw [hur] at RU
          rw [opt_some] at U
          clear hur
          unfold tmV Tm.cells at RU U
          obtain ⟨yu_, mou_, du_, hu_, miu_, su_⟩ := u
          simp only at RU U hu1 hu2
          refine (U.out _ (hR.below hbw6)).mono ?_
          intro e w7 hw7
          obtain ⟨rfl, hb7⟩ := hw7
          have hbw7 := hbw6.trans (hb7.mono hs6)
          have hs7 := hbw7.size
          have k57 := (hb7.block _ (heap_lt k56)).trans k56
          clear hb7 k56 hbw6 hs6
          obtain ⟨cu0, cu1, cu2, cu3, cu4, cu5⟩ := cells6 k57
          obtain ⟨cf0, cf1, cf2, cf3, cf4, cf5⟩ := free6 k57
          go_wp2_with fail
          refine calls_named fun w8 hw8 => ?_
          have hbw8 : Below w.heap.size w w8 := below_named hw8 (below6 hbw7 hg5)
          have hs8 := hbw8.size
          have k58 := heap_named hw8 (set6 k57)
          clear cu0 cu1 cu2 cu3 cu4 cu5 cf0 cf1 cf2 cf3 cf4 cf5
          clear hw8 k57 hbw7 hs7
          refine (RU.out _).mono ?_
          intro e w9 hw9
          obtain ⟨rfl, hb9⟩ := hw9
          have hbw9 := hbw8.trans (hb9.mono hs8)
          have hs9 := hbw9.size
          have k59 := (hb9.block _ (heap_lt k58)).trans k58
          clear hb9 k58 hbw8 hs8
          obtain ⟨cu0, cu1, cu2, cu3, cu4, cu5⟩ := cells6 k59
          obtain ⟨cf0, cf1, cf2, cf3, cf4, cf5⟩ := free6 k59
          have q1 : decide ((yu_ : Int) < 1950) = false := decide_eq_false (by omega)
          have q2 : decide (2050 ≤ (yu_ : Int)) = false := decide_eq_false (by omega)
          go_wp2_with fail
          cases rg with
          | none =>
            rw [opt_none] at G
            refine (G.out _ (hR.below hbw9)).mono ?_
            intro e w10 hw10
            obtain ⟨rfl, hb10⟩ := hw10
            have hbw10 := hbw9.trans (hb10.mono hs9)
            have hs10 := hbw10.size
            have k510 := (hb10.block _ (heap_lt k59)).trans k59
            clear hb10 k59 hbw9 hs9
            clear cu0 cu1 cu2 cu3 cu4 cu5 cf0 cf1 cf2 cf3 cf4 cf5
            obtain ⟨cu0, cu1, cu2, cu3, cu4, cu5⟩ := cells6 k510
            obtain ⟨cf0, cf1, cf2, cf3, cf4, cf5⟩ := free6 k510
            go_wp2_with fail
            refine calls_named fun w11 hw11 => ?_
            have hbw11 : Below w.heap.size w w11 := below_named hw11 (below6 hbw10 hg5)
            have hs11 := hbw11.size
            clear cu0 cu1 cu2 cu3 cu4 cu5 cf0 cf1 cf2 cf3 cf4 cf5
            clear hw11 k510 hbw10 hs10
            refine (WK.out _ (hT.below' hbw11)).mono ?_
            intro e w13 hw13
            obtain ⟨rfl, hb13⟩ := hw13
            have hbw13 := hbw11.trans (hb13.mono hs11)
            clear hb13
            go_wp2
            go_ret
            exact ⟨rfl, hbw13⟩
          | some p =>
            have hgr := hg.out _ rfl
            have RG := Lib.hid (fun W => right_any p W (by have := right_year hgr; omega))
            rw [hgr] at RG
            rw [opt_some] at G
            clear hgr
            unfold tmV Tm.cells at RG G
            obtain ⟨yp_, mop_, dp_, hp_, mip_, sp_⟩ := p
            simp only at RG G
            refine (G.out _ (hR.below hbw9)).mono ?_
            intro e w10 hw10
            obtain ⟨rfl, hb10⟩ := hw10
            have hbw10 := hbw9.trans (hb10.mono hs9)
            have hs10 := hbw10.size
            have k510 := (hb10.block _ (heap_lt k59)).trans k59
            clear hb10 k59 hbw9 hs9
            clear cu0 cu1 cu2 cu3 cu4 cu5 cf0 cf1 cf2 cf3 cf4 cf5
            obtain ⟨cu0, cu1, cu2, cu3, cu4, cu5⟩ := cells6 k510
            obtain ⟨cf0, cf1, cf2, cf3, cf4, cf5⟩ := free6 k510
            go_wp2_with fail
            refine calls_named fun w11 hw11 => ?_
            have hbw11 : Below w.heap.size w w11 := below_named hw11 (below6 hbw10 hg5)
            have hs11 := hbw11.size
            clear cu0 cu1 cu2 cu3 cu4 cu5 cf0 cf1 cf2 cf3 cf4 cf5
            clear hw11 k510 hbw10 hs10
            refine (RG.out _).mono ?_
            intro e w12 hw12
            obtain ⟨rfl, hb12⟩ := hw12
            have hbw12 := hbw11.trans (hb12.mono hs11)
            have hs12 := hbw12.size
            clear hb12
            go_wp2_with fail
            refine (WK.out _ (hT.below' hbw12)).mono ?_
            intro e w13 hw13
            obtain ⟨rfl, hb13⟩ := hw13
            have hbw13 := hbw12.trans (hb13.mono hs12)
            clear hb13
            go_wp2
            go_ret
            exact ⟨rfl, hbw13⟩
      | some v =>
        obtain ⟨_, hvr, hvb, hvy⟩ := hv.out _ rfl
        have WV := Lib.hid (fun W (h : Sizes W) => write_any v W h hvy)
        rw [hvb] at WV
        rw [readV_some] at RB'
        clear hvb hvy hvr
        unfold tmV Tm.cells at WV RB'
        obtain ⟨yv_, mov_, dv_, hv_, miv_, sv_⟩ := v
        simp only at WV RB'
        go_wp2_with fail
        refine (RB'.out _ (hR.below hbw3) (hT.below' hbw3)).mono ?_
        intro e w4 hw4
        obtain ⟨rfl, hb4⟩ := hw4
        have hbw4 := hbw3.trans (hb4.mono hs3)
        have hs4 := hbw4.size
        have k54 := (hb4.block _ (heap_lt k53)).trans k53
        clear ct0 ct1 ct2 ct3 ct4 ct5 cu0 cu1 cu2 cu3 cu4 cu5 cf0 cf1 cf2 cf3 cf4 cf5
        clear hb4 kt3 k53 hbw3 hs3 tt
        obtain ⟨cu0, cu1, cu2, cu3, cu4, cu5⟩ := cells6 k54
        obtain ⟨cf0, cf1, cf2, cf3, cf4, cf5⟩ := free6 k54
        go_wp2_with fail
        refine calls_named fun w5 hw5 => ?_
        have hbw5 : Below w.heap.size w w5 := below_named hw5 (below6 hbw4 hg5)
        have hs5 := hbw5.size
        have k55 := heap_named hw5 (set6 k54)
        clear cu0 cu1 cu2 cu3 cu4 cu5 cf0 cf1 cf2 cf3 cf4 cf5
        clear hw5 k54 hbw4 hs4
        refine (WV.out _ (hT.below' hbw5)).mono ?_
        rintro e w6 ⟨A6, n6, c6, rfl, hown6, hb6⟩
        have hbw6 := hbw5.trans (hb6.mono hs5)
        have hs6 := hbw6.size
        have k56 := (hb6.block _ (heap_lt k55)).trans k55
        clear hb6 k55 hbw5 hs5
        go_wp2_with fail
        refine (eq_any _ _ _ _ _ _ _ _ _ hown6.rb (hR.below hbw6)).mono ?_
        rintro e w' ⟨rfl, rfl⟩
        rw [beq_self]
        clear hown6
        go_wp2_with fail
        cases ru with
        | none =>
          rw [opt_none] at U
          refine (U.out _ (hR.below hbw6)).mono ?_
          intro e w7 hw7
          obtain ⟨rfl, hb7⟩ := hw7
          have hbw7 := hbw6.trans (hb7.mono hs6)
          have hs7 := hbw7.size
          have k57 := (hb7.block _ (heap_lt k56)).trans k56
          clear hb7 k56 hbw6 hs6
          obtain ⟨cu0, cu1, cu2, cu3, cu4, cu5⟩ := cells6 k57
          obtain ⟨cf0, cf1, cf2, cf3, cf4, cf5⟩ := free6 k57
          go_wp2_with fail
          refine calls_named fun w9 hw9 => ?_
          have hbw9 : Below w.heap.size w w9 := below_named hw9 (below6 hbw7 hg5)
          have hs9 := hbw9.size
          have k59 := heap_named hw9 (set6 k57)
          clear cu0 cu1 cu2 cu3 cu4 cu5 cf0 cf1 cf2 cf3 cf4 cf5
          clear hw9 k57 hbw7 hs7
          obtain ⟨cu0, cu1, cu2, cu3, cu4, cu5⟩ := cells6 k59
          obtain ⟨cf0, cf1, cf2, cf3, cf4, cf5⟩ := free6 k59
          cases rg with
          | none =>
            rw [opt_none] at G
            refine (G.out _ (hR.below hbw9)).mono ?_
            intro e w10 hw10
            obtain ⟨rfl, hb10⟩ := hw10
            have hbw10 := hbw9.trans (hb10.mono hs9)
            have hs10 := hbw10.size
            have k510 := (hb10.block _ (heap_lt k59)).trans k59
            clear hb10 k59 hbw9 hs9
            clear cu0 cu1 cu2 cu3 cu4 cu5 cf0 cf1 cf2 cf3 cf4 cf5
            obtain ⟨cu0, cu1, cu2, cu3, cu4, cu5⟩ := cells6 k510
            obtain ⟨cf0, cf1, cf2, cf3, cf4, cf5⟩ := free6 k510
            go_wp2_with fail
            refine calls_named fun w11 hw11 => ?_
            have hbw11 : Below w.heap.size w w11 := below_named hw11 (below6 hbw10 hg5)
            have hs11 := hbw11.size
            clear cu0 cu1 cu2 cu3 cu4 cu5 cf0 cf1 cf2 cf3 cf4 cf5
            clear hw11 k510 hbw10 hs10
            refine (WK.out _ (hT.below' hbw11)).mono ?_
            intro e w13 hw13
            obtain ⟨rfl, hb13⟩ := hw13
            have hbw13 := hbw11.trans (hb13.mono hs11)
            clear hb13
            go_wp2
            go_ret
            exact ⟨rfl, hbw13⟩
          | some p =>
            have hgr := hg.out _ rfl
            have RG := Lib.hid (fun W => right_any p W (by have := right_year hgr; omega))
            rw [hgr] at RG
            rw [opt_some] at G
            clear hgr
            unfold tmV Tm.cells at RG G
            obtain ⟨yp_, mop_, dp_, hp_, mip_, sp_⟩ := p
            simp only at RG G
            refine (G.out _ (hR.below hbw9)).mono ?_
            intro e w10 hw10
            obtain ⟨rfl, hb10⟩ := hw10
            have hbw10 := hbw9.trans (hb10.mono hs9)
            have hs10 := hbw10.size
            have k510 := (hb10.block _ (heap_lt k59)).trans k59
            clear hb10 k59 hbw9 hs9
            clear cu0 cu1 cu2 cu3 cu4 cu5 cf0 cf1 cf2 cf3 cf4 cf5
            obtain ⟨cu0, cu1, cu2, cu3, cu4, cu5⟩ := cells6 k510
            obtain ⟨cf0, cf1, cf2, cf3, cf4, cf5⟩ := free6 k510
            go_wp2_with fail
            refine calls_named fun w11 hw11 => ?_
            have hbw11 : Below w.heap.size w w11 := below_named hw11 (below6 hbw10 hg5)
            have hs11 := hbw11.size
            clear cu0 cu1 cu2 cu3 cu4 cu5 cf0 cf1 cf2 cf3 cf4 cf5
            clear hw11 k510 hbw10 hs10
            refine (RG.out _).mono ?_
            intro e w12 hw12
            obtain ⟨rfl, hb12⟩ := hw12
            have hbw12 := hbw11.trans (hb12.mono hs11)
            have hs12 := hbw12.size
            clear hb12
            go_wp2_with fail
            refine (WK.out _ (hT.below' hbw12)).mono ?_
            intro e w13 hw13
            obtain ⟨rfl, hb13⟩ := hw13
            have hbw13 := hbw12.trans (hb13.mono hs12)
            clear hb13
            go_wp2
            go_ret
            exact ⟨rfl, hbw13⟩
        | some u =>
          obtain ⟨hur, hu1, hu2⟩ := hu.out _ rfl
          have RU := Lib.hid (fun W => right_any u W (by omega))
          rw [hur] at RU
          rw [opt_some] at U
          clear hur
          unfold tmV Tm.cells at RU U
          obtain ⟨yu_, mou_, du_, hu_, miu_, su_⟩ := u
          simp only at RU U hu1 hu2
          refine (U.out _ (hR.below hbw6)).mono ?_
          intro e w7 hw7
          obtain ⟨rfl, hb7⟩ := hw7
          have hbw7 := hbw6.trans (hb7.mono hs6)
          have hs7 := hbw7.size
          have k57 := (hb7.block _ (heap_lt k56)).trans k56
          clear hb7 k56 hbw6 hs6
          obtain ⟨cu0, cu1, cu2, cu3, cu4, cu5⟩ := cells6 k57
          obtain ⟨cf0, cf1, cf2, cf3, cf4, cf5⟩ := free6 k57
          go_wp2_with fail
          refine calls_named fun w8 hw8 => ?_
          have hbw8 : Below w.heap.size w w8 := below_named hw8 (below6 hbw7 hg5)
          have hs8 := hbw8.size
          have k58 := heap_named hw8 (set6 k57)
          clear cu0 cu1 cu2 cu3 cu4 cu5 cf0 cf1 cf2 cf3 cf4 cf5
          clear hw8 k57 hbw7 hs7
          refine (RU.out _).mono ?_
          intro e w9 hw9
          obtain ⟨rfl, hb9⟩ := hw9
          have hbw9 := hbw8.trans (hb9.mono hs8)
          have hs9 := hbw9.size
          have k59 := (hb9.block _ (heap_lt k58)).trans k58
          clear hb9 k58 hbw8 hs8
          obtain ⟨cu0, cu1, cu2, cu3, cu4, cu5⟩ := cells6 k59
          obtain ⟨cf0, cf1, cf2, cf3, cf4, cf5⟩ := free6 k59
          have q1 : decide ((yu_ : Int) < 1950) = false := decide_eq_false (by omega)
          have q2 : decide (2050 ≤ (yu_ : Int)) = false := decide_eq_false (by omega)
          go_wp2_with fail
          cases rg with
          | none =>
            rw [opt_none] at G
            refine (G.out _ (hR.below hbw9)).mono ?_
            intro e w10 hw10
            obtain ⟨rfl, hb10⟩ := hw10
            have hbw10 := hbw9.trans (hb10.mono hs9)
            have hs10 := hbw10.size
            have k510 := (hb10.block _ (heap_lt k59)).trans k59
            clear hb10 k59 hbw9 hs9
            clear cu0 cu1 cu2 cu3 cu4 cu5 cf0 cf1 cf2 cf3 cf4 cf5
            obtain ⟨cu0, cu1, cu2, cu3, cu4, cu5⟩ := cells6 k510
            obtain ⟨cf0, cf1, cf2, cf3, cf4, cf5⟩ := free6 k510
            go_wp2_with fail
            refine calls_named fun w11 hw11 => ?_
            have hbw11 : Below w.heap.size w w11 := below_named hw11 (below6 hbw10 hg5)
            have hs11 := hbw11.size
            clear cu0 cu1 cu2 cu3 cu4 cu5 cf0 cf1 cf2 cf3 cf4 cf5
            clear hw11 k510 hbw10 hs10
            refine (WK.out _ (hT.below' hbw11)).mono ?_
            intro e w13 hw13
            obtain ⟨rfl, hb13⟩ := hw13
            have hbw13 := hbw11.trans (hb13.mono hs11)
            clear hb13
            go_wp2
            go_ret
            exact ⟨rfl, hbw13⟩
          | some p =>
            have hgr := hg.out _ rfl
            have RG := Lib.hid (fun W => right_any p W (by have := right_year hgr; omega))
            rw [hgr] at RG
            rw [opt_some] at G
            clear hgr
            unfold tmV Tm.cells at RG G
            obtain ⟨yp_, mop_, dp_, hp_, mip_, sp_⟩ := p
            simp only at RG G
            refine (G.out _ (hR.below hbw9)).mono ?_
            intro e w10 hw10
            obtain ⟨rfl, hb10⟩ := hw10
            have hbw10 := hbw9.trans (hb10.mono hs9)
            have hs10 := hbw10.size
            have k510 := (hb10.block _ (heap_lt k59)).trans k59
            clear hb10 k59 hbw9 hs9
            clear cu0 cu1 cu2 cu3 cu4 cu5 cf0 cf1 cf2 cf3 cf4 cf5
            obtain ⟨cu0, cu1, cu2, cu3, cu4, cu5⟩ := cells6 k510
            obtain ⟨cf0, cf1, cf2, cf3, cf4, cf5⟩ := free6 k510
            go_wp2_with fail
            refine calls_named fun w11 hw11 => ?_
            have hbw11 : Below w.heap.size w w11 := below_named hw11 (below6 hbw10 hg5)
            have hs11 := hbw11.size
            clear cu0 cu1 cu2 cu3 cu4 cu5 cf0 cf1 cf2 cf3 cf4 cf5
            clear hw11 k510 hbw10 hs10
            refine (RG.out _).mono ?_
            intro e w12 hw12
            obtain ⟨rfl, hb12⟩ := hw12
            have hbw12 := hbw11.trans (hb12.mono hs11)
            have hs12 := hbw12.size
            clear hb12
            go_wp2_with fail
            refine (WK.out _ (hT.below' hbw12)).mono ?_
            intro e w13 hw13
            obtain ⟨rfl, hb13⟩ := hw13
            have hbw13 := hbw12.trans (hb13.mono hs12)
            clear hb13
            go_wp2
            go_ret
            exact ⟨rfl, hbw13⟩
    · rw [h3] at RDT0
      rw [h1] at RT
      rw [h2] at ZT
      rw [readV_some] at RDT0
      have RDT := Lib.hid RDT0
      clear RDT0 h1 h3 h2
      generalize tmB t = tb at WR RDT HL
      unfold tmV Tm.cells at *
      obtain ⟨yt_, mot_, dt_, ht_, mit_, st_⟩ := t
      simp only at *
      go_enter Tryd.func5, Tryd.ntmps5
      go_wp2_with fail
      refine (WR.out _ (hT.alloc _)).mono ?_
      rintro e w1 ⟨A2, n2, c2, rfl, hown1, hb1⟩
      obtain rfl : 16 = n2 := HL.out.symm.trans hown1.len
      have hc2 := hown1.cap
      unfold maxLen at hc2
      have hbw1 : Below w.heap.size w w1 := ((Below.refl _ _).alloc (Nat.le_refl _) _).trans (hb1.mono (by simp))
      have hs1 := hbw1.size
      have kt1 := (hb1.block w.heap.size (by simp)).trans (heap_alloc_new w _)
      clear hb1
      go_wp2_with fail
      refine (RDT.out _ _ _ hown1.rb hc2.1 (by omega) (hT.below' hbw1)).mono ?_
      intro e w2 hw2
      obtain ⟨rfl, hb2⟩ := hw2
      have hbw2 := hbw1.trans (hb2.mono hs1)
      have hs2 := hbw2.size
      have kt2 := (hb2.block _ (heap_lt kt1)).trans kt1
      clear hb2 kt1 hown1 hbw1 hs1
      obtain ⟨ct0, ct1, ct2, ct3, ct4, ct5⟩ := cells6 kt2
      have hlt2 := heap_lt kt2
      go_wp2_with fail
      refine (RT.out _).mono ?_
      intro e w3 hw3
      obtain ⟨rfl, hb3⟩ := hw3
      have hbw3 := (hbw2.alloc hs2 _).trans (hb3.mono (by simp; omega))
      have hs3 := hbw3.size
      have k53 := (hb3.block w2.heap.size (by simp)).trans (heap_alloc_new w2 _)
      have kt3 := (hb3.block w.heap.size (by simp; omega)).trans ((heap_alloc_old w2 _ hlt2).trans kt2)
      have hg5 := hs2
      clear ct0 ct1 ct2 ct3 ct4 ct5
      clear hb3 kt2 hlt2 hbw2
      obtain ⟨g5, hG⟩ : ∃ g5, w2.heap.size = g5 := ⟨_, rfl⟩
      rw [hG] at k53 hg5 ⊢
      clear hG hs2
      obtain ⟨ct0, ct1, ct2, ct3, ct4, ct5⟩ := cells6 kt3
      obtain ⟨cu0, cu1, cu2, cu3, cu4, cu5⟩ := cells6 k53
      obtain ⟨cf0, cf1, cf2, cf3, cf4, cf5⟩ := free6 k53
      have zt := ZT.out
      have tt := TT.out
      cases rv with
      | none =>
        rw [readV_none] at RB'
        go_wp2_with fail
        refine (RB'.out _ (hR.below hbw3) (hT.below' hbw3)).mono ?_
        intro e w4 hw4
        obtain ⟨rfl, hb4⟩ := hw4
        have hbw4 := hbw3.trans (hb4.mono hs3)
        have hs4 := hbw4.size
        have k54 := (hb4.block _ (heap_lt k53)).trans k53
        clear ct0 ct1 ct2 ct3 ct4 ct5 cu0 cu1 cu2 cu3 cu4 cu5 cf0 cf1 cf2 cf3 cf4 cf5
        clear hb4 kt3 k53 hbw3 hs3 tt zt
        obtain ⟨cu0, cu1, cu2, cu3, cu4, cu5⟩ := cells6 k54
        obtain ⟨cf0, cf1, cf2, cf3, cf4, cf5⟩ := free6 k54
        go_wp2_with fail
        refine calls_named fun w6 hw6 => ?_
        have hbw6 : Below w.heap.size w w6 := below_named hw6 (below6 hbw4 hg5)
        have hs6 := hbw6.size
        have k56 := heap_named hw6 (set6 k54)
        clear cu0 cu1 cu2 cu3 cu4 cu5 cf0 cf1 cf2 cf3 cf4 cf5
        clear hw6 k54 hbw4 hs4
        cases ru with
        | none =>
          rw [opt_none] at U
          refine (U.out _ (hR.below hbw6)).mono ?_
          intro e w7 hw7
          obtain ⟨rfl, hb7⟩ := hw7
          have hbw7 := hbw6.trans (hb7.mono hs6)
          have hs7 := hbw7.size
          have k57 := (hb7.block _ (heap_lt k56)).trans k56
          clear hb7 k56 hbw6 hs6
          obtain ⟨cu0, cu1, cu2, cu3, cu4, cu5⟩ := cells6 k57
          obtain ⟨cf0, cf1, cf2, cf3, cf4, cf5⟩ := free6 k57
          go_wp2_with fail
          refine calls_named fun w9 hw9 => ?_
          have hbw9 : Below w.heap.size w w9 := below_named hw9 (below6 hbw7 hg5)
          have hs9 := hbw9.size
          have k59 := heap_named hw9 (set6 k57)
          clear cu0 cu1 cu2 cu3 cu4 cu5 cf0 cf1 cf2 cf3 cf4 cf5
          clear hw9 k57 hbw7 hs7
          obtain ⟨cu0, cu1, cu2, cu3, cu4, cu5⟩ := cells6 k59
          obtain ⟨cf0, cf1, cf2, cf3, cf4, cf5⟩ := free6 k59
          cases rg with
          | none =>
            rw [opt_none] at G
            refine (G.out _ (hR.below hbw9)).mono ?_
            intro e w10 hw10
            obtain ⟨rfl, hb10⟩ := hw10
            have hbw10 := hbw9.trans (hb10.mono hs9)
            have hs10 := hbw10.size
            have k510 := (hb10.block _ (heap_lt k59)).trans k59
            clear hb10 k59 hbw9 hs9
            clear cu0 cu1 cu2 cu3 cu4 cu5 cf0 cf1 cf2 cf3 cf4 cf5
            obtain ⟨cu0, cu1, cu2, cu3, cu4, cu5⟩ := cells6 k510
            obtain ⟨cf0, cf1, cf2, cf3, cf4, cf5⟩ := free6 k510
            go_wp2_with fail
            refine calls_named fun w11 hw11 => ?_
            have hbw11 : Below w.heap.size w w11 := below_named hw11 (below6 hbw10 hg5)
            have hs11 := hbw11.size
            clear cu0 cu1 cu2 cu3 cu4 cu5 cf0 cf1 cf2 cf3 cf4 cf5
            clear hw11 k510 hbw10 hs10
            refine (WK.out _ (hT.below' hbw11)).mono ?_
            intro e w13 hw13
            obtain ⟨rfl, hb13⟩ := hw13
            have hbw13 := hbw11.trans (hb13.mono hs11)
            clear hb13
            go_wp2
            go_ret
            exact ⟨rfl, hbw13⟩
          | some p =>
            have hgr := hg.out _ rfl
            have RG := Lib.hid (fun W => right_any p W (by have := right_year hgr; omega))
            rw [hgr] at RG
            rw [opt_some] at G
            clear hgr
            unfold tmV Tm.cells at RG G
            obtain ⟨yp_, mop_, dp_, hp_, mip_, sp_⟩ := p
            simp only at RG G
            refine (G.out _ (hR.below hbw9)).mono ?_
            intro e w10 hw10
            obtain ⟨rfl, hb10⟩ := hw10
            have hbw10 := hbw9.trans (hb10.mono hs9)
            have hs10 := hbw10.size
            have k510 := (hb10.block _ (heap_lt k59)).trans k59
            clear hb10 k59 hbw9 hs9
            clear cu0 cu1 cu2 cu3 cu4 cu5 cf0 cf1 cf2 cf3 cf4 cf5
            obtain ⟨cu0, cu1, cu2, cu3, cu4, cu5⟩ := cells6 k510
            obtain ⟨cf0, cf1, cf2, cf3, cf4, cf5⟩ := free6 k510
            go_wp2_with fail
            refine calls_named fun w11 hw11 => ?_
            have hbw11 : Below w.heap.size w w11 := below_named hw11 (below6 hbw10 hg5)
            have hs11 := hbw11.size
            clear cu0 cu1 cu2 cu3 cu4 cu5 cf0 cf1 cf2 cf3 cf4 cf5
            clear hw11 k510 hbw10 hs10
            refine (RG.out _).mono ?_
            intro e w12 hw12
            obtain ⟨rfl, hb12⟩ := hw12
            have hbw12 := hbw11.trans (hb12.mono hs11)
            have hs12 := hbw12.size
            clear hb12
            go_wp2_with fail
            refine (WK.out _ (hT.below' hbw12)).mono ?_
            intro e w13 hw13
            obtain ⟨rfl, hb13⟩ := hw13
            have hbw13 := hbw12.trans (hb13.mono hs12)
            clear hb13
            go_wp2
            go_ret
            exact ⟨rfl, hbw13⟩
        | some u =>
          obtain ⟨hur, hu1, hu2⟩ := hu.out _ rfl
          have RU := Lib.hid (fun W => right_any u W (by omega))
          rw [hur] at RU
          rw [opt_some] at U
          clear hur
          unfold tmV Tm.cells at RU U
          obtain ⟨yu_, mou_, du_, hu_, miu_, su_⟩ := u
          simp only at RU U hu1 hu2
          refine (U.out _ (hR.below hbw6)).mono ?_
          intro e w7 hw7
          obtain ⟨rfl, hb7⟩ := hw7
          have hbw7 := hbw6.trans (hb7.mono hs6)
          have hs7 := hbw7.size
          have k57 := (hb7.block _ (heap_lt k56)).trans k56
          clear hb7 k56 hbw6 hs6
          obtain ⟨cu0, cu1, cu2, cu3, cu4, cu5⟩ := cells6 k57
          obtain ⟨cf0, cf1, cf2, cf3, cf4, cf5⟩ := free6 k57
          go_wp2_with fail
          refine calls_named fun w8 hw8 => ?_
          have hbw8 : Below w.heap.size w w8 := below_named hw8 (below6 hbw7 hg5)
          have hs8 := hbw8.size
          have k58 := heap_named hw8 (set6 k57)
          clear cu0 cu1 cu2 cu3 cu4 cu5 cf0 cf1 cf2 cf3 cf4 cf5
          clear hw8 k57 hbw7 hs7
          refine (RU.out _).mono ?_
          intro e w9 hw9
          obtain ⟨rfl, hb9⟩ := hw9
          have hbw9 := hbw8.trans (hb9.mono hs8)
          have hs9 := hbw9.size
          have k59 := (hb9.block _ (heap_lt k58)).trans k58
          clear hb9 k58 hbw8 hs8
          obtain ⟨cu0, cu1, cu2, cu3, cu4, cu5⟩ := cells6 k59
          obtain ⟨cf0, cf1, cf2, cf3, cf4, cf5⟩ := free6 k59
          have q1 : decide ((yu_ : Int) < 1950) = false := decide_eq_false (by omega)
          have q2 : decide (2050 ≤ (yu_ : Int)) = false := decide_eq_false (by omega)
          go_wp2_with fail
          cases rg with
          | none =>
            rw [opt_none] at G
            refine (G.out _ (hR.below hbw9)).mono ?_
            intro e w10 hw10
            obtain ⟨rfl, hb10⟩ := hw10
            have hbw10 := hbw9.trans (hb10.mono hs9)
            have hs10 := hbw10.size
            have k510 := (hb10.block _ (heap_lt k59)).trans k59
            clear hb10 k59 hbw9 hs9
            clear cu0 cu1 cu2 cu3 cu4 cu5 cf0 cf1 cf2 cf3 cf4 cf5
            obtain ⟨cu0, cu1, cu2, cu3, cu4, cu5⟩ := cells6 k510
            obtain ⟨cf0, cf1, cf2, cf3, cf4, cf5⟩ := free6 k510
            go_wp2_with fail
            refine calls_named fun w11 hw11 => ?_
            have hbw11 : Below w.heap.size w w11 := below_named hw11 (below6 hbw10 hg5)
            have hs11 := hbw11.size
            clear cu0 cu1 cu2 cu3 cu4 cu5 cf0 cf1 cf2 cf3 cf4 cf5
            clear hw11 k510 hbw10 hs10
            refine (WK.out _ (hT.below' hbw11)).mono ?_
            intro e w13 hw13
            obtain ⟨rfl, hb13⟩ := hw13
            have hbw13 := hbw11.trans (hb13.mono hs11)
            clear hb13
            go_wp2
            go_ret
            exact ⟨rfl, hbw13⟩
          | some p =>
            have hgr := hg.out _ rfl
            have RG := Lib.hid (fun W => right_any p W (by have := right_year hgr; omega))
            rw [hgr] at RG
            rw [opt_some] at G
            clear hgr
            unfold tmV Tm.cells at RG G
            obtain ⟨yp_, mop_, dp_, hp_, mip_, sp_⟩ := p
            simp only at RG G
            refine (G.out _ (hR.below hbw9)).mono ?_
            intro e w10 hw10
            obtain ⟨rfl, hb10⟩ := hw10
            have hbw10 := hbw9.trans (hb10.mono hs9)
            have hs10 := hbw10.size
            have k510 := (hb10.block _ (heap_lt k59)).trans k59
            clear hb10 k59 hbw9 hs9
            clear cu0 cu1 cu2 cu3 cu4 cu5 cf0 cf1 cf2 cf3 cf4 cf5
            obtain ⟨cu0, cu1, cu2, cu3, cu4, cu5⟩ := cells6 k510
            obtain ⟨cf0, cf1, cf2, cf3, cf4, cf5⟩ := free6 k510
            go_wp2_with fail
            refine calls_named fun w11 hw11 => ?_
            have hbw11 : Below w.heap.size w w11 := below_named hw11 (below6 hbw10 hg5)
            have hs11 := hbw11.size
            clear cu0 cu1 cu2 cu3 cu4 cu5 cf0 cf1 cf2 cf3 cf4 cf5
            clear hw11 k510 hbw10 hs10
            refine (RG.out _).mono ?_
            intro e w12 hw12
            obtain ⟨rfl, hb12⟩ := hw12
            have hbw12 := hbw11.trans (hb12.mono hs11)
            have hs12 := hbw12.size
            clear hb12
            go_wp2_with fail
            refine (WK.out _ (hT.below' hbw12)).mono ?_
            intro e w13 hw13
            obtain ⟨rfl, hb13⟩ := hw13
            have hbw13 := hbw12.trans (hb13.mono hs12)
            clear hb13
            go_wp2
            go_ret
            exact ⟨rfl, hbw13⟩
      | some v =>
        obtain ⟨_, hvr, hvb, hvy⟩ := hv.out _ rfl
        have WV := Lib.hid (fun W (h : Sizes W) => write_any v W h hvy)
        rw [hvb] at WV
        rw [readV_some] at RB'
        clear hvb hvy hvr
        unfold tmV Tm.cells at WV RB'
        obtain ⟨yv_, mov_, dv_, hv_, miv_, sv_⟩ := v
        simp only at WV RB'
        go_wp2_with fail
        refine (RB'.out _ (hR.below hbw3) (hT.below' hbw3)).mono ?_
        intro e w4 hw4
        obtain ⟨rfl, hb4⟩ := hw4
        have hbw4 := hbw3.trans (hb4.mono hs3)
        have hs4 := hbw4.size
        have k54 := (hb4.block _ (heap_lt k53)).trans k53
        clear ct0 ct1 ct2 ct3 ct4 ct5 cu0 cu1 cu2 cu3 cu4 cu5 cf0 cf1 cf2 cf3 cf4 cf5
        clear hb4 kt3 k53 hbw3 hs3 tt zt
        obtain ⟨cu0, cu1, cu2, cu3, cu4, cu5⟩ := cells6 k54
        obtain ⟨cf0, cf1, cf2, cf3, cf4, cf5⟩ := free6 k54
        go_wp2_with fail
        refine calls_named fun w5 hw5 => ?_
        have hbw5 : Below w.heap.size w w5 := below_named hw5 (below6 hbw4 hg5)
        have hs5 := hbw5.size
        have k55 := heap_named hw5 (set6 k54)
        clear cu0 cu1 cu2 cu3 cu4 cu5 cf0 cf1 cf2 cf3 cf4 cf5
        clear hw5 k54 hbw4 hs4
        refine (WV.out _ (hT.below' hbw5)).mono ?_
        rintro e w6 ⟨A6, n6, c6, rfl, hown6, hb6⟩
        have hbw6 := hbw5.trans (hb6.mono hs5)
        have hs6 := hbw6.size
        have k56 := (hb6.block _ (heap_lt k55)).trans k55
        clear hb6 k55 hbw5 hs5
        go_wp2_with fail
        refine (eq_any _ _ _ _ _ _ _ _ _ hown6.rb (hR.below hbw6)).mono ?_
        rintro e w' ⟨rfl, rfl⟩
        rw [beq_self]
        clear hown6
        go_wp2_with fail
        cases ru with
        | none =>
          rw [opt_none] at U
          refine (U.out _ (hR.below hbw6)).mono ?_
          intro e w7 hw7
          obtain ⟨rfl, hb7⟩ := hw7
          have hbw7 := hbw6.trans (hb7.mono hs6)
          have hs7 := hbw7.size
          have k57 := (hb7.block _ (heap_lt k56)).trans k56
          clear hb7 k56 hbw6 hs6
          obtain ⟨cu0, cu1, cu2, cu3, cu4, cu5⟩ := cells6 k57
          obtain ⟨cf0, cf1, cf2, cf3, cf4, cf5⟩ := free6 k57
          go_wp2_with fail
          refine calls_named fun w9 hw9 => ?_
          have hbw9 : Below w.heap.size w w9 := below_named hw9 (below6 hbw7 hg5)
          have hs9 := hbw9.size
          have k59 := heap_named hw9 (set6 k57)
          clear cu0 cu1 cu2 cu3 cu4 cu5 cf0 cf1 cf2 cf3 cf4 cf5
          clear hw9 k57 hbw7 hs7
          obtain ⟨cu0, cu1, cu2, cu3, cu4, cu5⟩ := cells6 k59
          obtain ⟨cf0, cf1, cf2, cf3, cf4, cf5⟩ := free6 k59
          cases rg with
          | none =>
            rw [opt_none] at G
            refine (G.out _ (hR.below hbw9)).mono ?_
            intro e w10 hw10
            obtain ⟨rfl, hb10⟩ := hw10
            have hbw10 := hbw9.trans (hb10.mono hs9)
            have hs10 := hbw10.size
            have k510 := (hb10.block _ (heap_lt k59)).trans k59
            clear hb10 k59 hbw9 hs9
            clear cu0 cu1 cu2 cu3 cu4 cu5 cf0 cf1 cf2 cf3 cf4 cf5
            obtain ⟨cu0, cu1, cu2, cu3, cu4, cu5⟩ := cells6 k510
            obtain ⟨cf0, cf1, cf2, cf3, cf4, cf5⟩ := free6 k510
            go_wp2_with fail
            refine calls_named fun w11 hw11 => ?_
            have hbw11 : Below w.heap.size w w11 := below_named hw11 (below6 hbw10 hg5)
            have hs11 := hbw11.size
            clear cu0 cu1 cu2 cu3 cu4 cu5 cf0 cf1 cf2 cf3 cf4 cf5
            clear hw11 k510 hbw10 hs10
            refine (WK.out _ (hT.below' hbw11)).mono ?_
            intro e w13 hw13
            obtain ⟨rfl, hb13⟩ := hw13
            have hbw13 := hbw11.trans (hb13.mono hs11)
            clear hb13
            go_wp2
            go_ret
            exact ⟨rfl, hbw13⟩
          | some p =>
            have hgr := hg.out _ rfl
            have RG := Lib.hid (fun W => right_any p W (by have := right_year hgr; omega))
            rw [hgr] at RG
            rw [opt_some] at G
            clear hgr
            unfold tmV Tm.cells at RG G
            obtain ⟨yp_, mop_, dp_, hp_, mip_, sp_⟩ := p
            simp only at RG G
            refine (G.out _ (hR.below hbw9)).mono ?_
            intro e w10 hw10
            obtain ⟨rfl, hb10⟩ := hw10
            have hbw10 := hbw9.trans (hb10.mono hs9)
            have hs10 := hbw10.size
            have k510 := (hb10.block _ (heap_lt k59)).trans k59
            clear hb10 k59 hbw9 hs9
            clear cu0 cu1 cu2 cu3 cu4 cu5 cf0 cf1 cf2 cf3 cf4 cf5
            obtain ⟨cu0, cu1, cu2, cu3, cu4, cu5⟩ := cells6 k510
            obtain ⟨cf0, cf1, cf2, cf3, cf4, cf5⟩ := free6 k510
            go_wp2_with fail
            refine calls_named fun w11 hw11 => ?_
            have hbw11 : Below w.heap.size w w11 := below_named hw11 (below6 hbw10 hg5)
            have hs11 := hbw11.size
            clear cu0 cu1 cu2 cu3 cu4 cu5 cf0 cf1 cf2 cf3 cf4 cf5
            clear hw11 k510 hbw10 hs10
            refine (RG.out _).mono ?_
            intro e w12 hw12
            obtain ⟨rfl, hb12⟩ := hw12
            have hbw12 := hbw11.trans (hb12.mono hs11)
            have hs12 := hbw12.size
            clear hb12
            go_wp2_with fail
            refine (WK.out _ (hT.below' hbw12)).mono ?_
            intro e w13 hw13
            obtain ⟨rfl, hb13⟩ := hw13
            have hbw13 := hbw12.trans (hb13.mono hs12)
            clear hb13
            go_wp2
            go_ret
            exact ⟨rfl, hbw13⟩
        | some u =>
          obtain ⟨hur, hu1, hu2⟩ := hu.out _ rfl
          have RU := Lib.hid (fun W => right_any u W (by omega))
          rw [hur] at RU
          rw [opt_some] at U
          clear hur
          unfold tmV Tm.cells at RU U
          obtain ⟨yu_, mou_, du_, hu_, miu_, su_⟩ := u
          simp only at RU U hu1 hu2
          refine (U.out _ (hR.below hbw6)).mono ?_
          intro e w7 hw7
          obtain ⟨rfl, hb7⟩ := hw7
          have hbw7 := hbw6.trans (hb7.mono hs6)
          have hs7 := hbw7.size
          have k57 := (hb7.block _ (heap_lt k56)).trans k56
          clear hb7 k56 hbw6 hs6
          obtain ⟨cu0, cu1, cu2, cu3, cu4, cu5⟩ := cells6 k57
          obtain ⟨cf0, cf1, cf2, cf3, cf4, cf5⟩ := free6 k57
          go_wp2_with fail
          refine calls_named fun w8 hw8 => ?_
          have hbw8 : Below w.heap.size w w8 := below_named hw8 (below6 hbw7 hg5)
          have hs8 := hbw8.size
          have k58 := heap_named hw8 (set6 k57)
          clear cu0 cu1 cu2 cu3 cu4 cu5 cf0 cf1 cf2 cf3 cf4 cf5
          clear hw8 k57 hbw7 hs7
          refine (RU.out _).mono ?_
          intro e w9 hw9
          obtain ⟨rfl, hb9⟩ := hw9
          have hbw9 := hbw8.trans (hb9.mono hs8)
          have hs9 := hbw9.size
          have k59 := (hb9.block _ (heap_lt k58)).trans k58
          clear hb9 k58 hbw8 hs8
          obtain ⟨cu0, cu1, cu2, cu3, cu4, cu5⟩ := cells6 k59
          obtain ⟨cf0, cf1, cf2, cf3, cf4, cf5⟩ := free6 k59
          have q1 : decide ((yu_ : Int) < 1950) = false := decide_eq_false (by omega)
          have q2 : decide (2050 ≤ (yu_ : Int)) = false := decide_eq_false (by omega)
          go_wp2_with fail
          cases rg with
          | none =>
            rw [opt_none] at G
            refine (G.out _ (hR.below hbw9)).mono ?_
            intro e w10 hw10
            obtain ⟨rfl, hb10⟩ := hw10
            have hbw10 := hbw9.trans (hb10.mono hs9)
            have hs10 := hbw10.size
            have k510 := (hb10.block _ (heap_lt k59)).trans k59
            clear hb10 k59 hbw9 hs9
            clear cu0 cu1 cu2 cu3 cu4 cu5 cf0 cf1 cf2 cf3 cf4 cf5
            obtain ⟨cu0, cu1, cu2, cu3, cu4, cu5⟩ := cells6 k510
            obtain ⟨cf0, cf1, cf2, cf3, cf4, cf5⟩ := free6 k510
            go_wp2_with fail
            refine calls_named fun w11 hw11 => ?_
            have hbw11 : Below w.heap.size w w11 := below_named hw11 (below6 hbw10 hg5)
            have hs11 := hbw11.size
            clear cu0 cu1 cu2 cu3 cu4 cu5 cf0 cf1 cf2 cf3 cf4 cf5
            clear hw11 k510 hbw10 hs10
            refine (WK.out _ (hT.below' hbw11)).mono ?_
            intro e w13 hw13
            obtain ⟨rfl, hb13⟩ := hw13
            have hbw13 := hbw11.trans (hb13.mono hs11)
            clear hb13
            go_wp2
            go_ret
            exact ⟨rfl, hbw13⟩
          | some p =>
            have hgr := hg.out _ rfl
            have RG := Lib.hid (fun W => right_any p W (by have := right_year hgr; omega))
            rw [hgr] at RG
            rw [opt_some] at G
            clear hgr
            unfold tmV Tm.cells at RG G
            obtain ⟨yp_, mop_, dp_, hp_, mip_, sp_⟩ := p
            simp only at RG G
            refine (G.out _ (hR.below hbw9)).mono ?_
            intro e w10 hw10
            obtain ⟨rfl, hb10⟩ := hw10
            have hbw10 := hbw9.trans (hb10.mono hs9)
            have hs10 := hbw10.size
            have k510 := (hb10.block _ (heap_lt k59)).trans k59
            clear hb10 k59 hbw9 hs9
            clear cu0 cu1 cu2 cu3 cu4 cu5 cf0 cf1 cf2 cf3 cf4 cf5
            obtain ⟨cu0, cu1, cu2, cu3, cu4, cu5⟩ := cells6 k510
            obtain ⟨cf0, cf1, cf2, cf3, cf4, cf5⟩ := free6 k510
            go_wp2_with fail
            refine calls_named fun w11 hw11 => ?_
            have hbw11 : Below w.heap.size w w11 := below_named hw11 (below6 hbw10 hg5)
            have hs11 := hbw11.size
            clear cu0 cu1 cu2 cu3 cu4 cu5 cf0 cf1 cf2 cf3 cf4 cf5
            clear hw11 k510 hbw10 hs10
            refine (RG.out _).mono ?_
            intro e w12 hw12
            obtain ⟨rfl, hb12⟩ := hw12
            have hbw12 := hbw11.trans (hb12.mono hs11)
            have hs12 := hbw12.size
            clear hb12
            go_wp2_with fail
            refine (WK.out _ (hT.below' hbw12)).mono ?_
            intro e w13 hw13
            obtain ⟨rfl, hb13⟩ := hw13
            have hbw13 := hbw12.trans (hb13.mono hs12)
            clear hb13
            go_wp2
            go_ret
            exact ⟨rfl, hbw13⟩
    · rw [h3] at RDT0
      rw [h1] at RT
      rw [h2] at ZT
      rw [readV_none] at RDT0
      have RDT := Lib.hid RDT0
      clear RDT0 h1 h3 h2
      generalize tmB t = tb at WR RDT HL
      unfold tmV Tm.cells at *
      obtain ⟨yt_, mot_, dt_, ht_, mit_, st_⟩ := t
      simp only at *
      go_enter Tryd.func5, Tryd.ntmps5
      go_wp2_with fail
      refine (WR.out _ (hT.alloc _)).mono ?_
      rintro e w1 ⟨A2, n2, c2, rfl, hown1, hb1⟩
      obtain rfl : 16 = n2 := HL.out.symm.trans hown1.len
      have hc2 := hown1.cap
      unfold maxLen at hc2
      have hbw1 : Below w.heap.size w w1 := ((Below.refl _ _).alloc (Nat.le_refl _) _).trans (hb1.mono (by simp))
      have hs1 := hbw1.size
      have kt1 := (hb1.block w.heap.size (by simp)).trans (heap_alloc_new w _)
      clear hb1
      go_wp2_with fail
      refine (RDT.out _ _ _ hown1.rb hc2.1 (by omega) (hT.below' hbw1)).mono ?_
      intro e w2 hw2
      obtain ⟨rfl, hb2⟩ := hw2
      have hbw2 := hbw1.trans (hb2.mono hs1)
      have hs2 := hbw2.size
      have kt2 := (hb2.block _ (heap_lt kt1)).trans kt1
      clear hb2 kt1 hown1 hbw1 hs1
      obtain ⟨ct0, ct1, ct2, ct3, ct4, ct5⟩ := cells6 kt2
      have hlt2 := heap_lt kt2
      go_wp2_with fail
      refine (RT.out _).mono ?_
      intro e w3 hw3
      obtain ⟨rfl, hb3⟩ := hw3
      have hbw3 := (hbw2.alloc hs2 _).trans (hb3.mono (by simp; omega))
      have hs3 := hbw3.size
      have k53 := (hb3.block w2.heap.size (by simp)).trans (heap_alloc_new w2 _)
      have kt3 := (hb3.block w.heap.size (by simp; omega)).trans ((heap_alloc_old w2 _ hlt2).trans kt2)
      have hg5 := hs2
      clear ct0 ct1 ct2 ct3 ct4 ct5
      clear hb3 kt2 hlt2 hbw2
      obtain ⟨g5, hG⟩ : ∃ g5, w2.heap.size = g5 := ⟨_, rfl⟩
      rw [hG] at k53 hg5 ⊢
      clear hG hs2
      obtain ⟨ct0, ct1, ct2, ct3, ct4, ct5⟩ := cells6 kt3
      obtain ⟨cu0, cu1, cu2, cu3, cu4, cu5⟩ := cells6 k53
      obtain ⟨cf0, cf1, cf2, cf3, cf4, cf5⟩ := free6 k53
      have zt := ZT.out
      have tt := TT.out
      cases rv with
      | none =>
        rw [readV_none] at RB'
        go_wp2_with fail
        refine (RB'.out _ (hR.below hbw3) (hT.below' hbw3)).mono ?_
        intro e w4 hw4
        obtain ⟨rfl, hb4⟩ := hw4
        have hbw4 := hbw3.trans (hb4.mono hs3)
        have hs4 := hbw4.size
        have k54 := (hb4.block _ (heap_lt k53)).trans k53
        clear ct0 ct1 ct2 ct3 ct4 ct5 cu0 cu1 cu2 cu3 cu4 cu5 cf0 cf1 cf2 cf3 cf4 cf5
        clear hb4 kt3 k53 hbw3 hs3 tt zt
        obtain ⟨cu0, cu1, cu2, cu3, cu4, cu5⟩ := cells6 k54
        obtain ⟨cf0, cf1, cf2, cf3, cf4, cf5⟩ := free6 k54
        go_wp2_with fail
        refine calls_named fun w6 hw6 => ?_
        have hbw6 : Below w.heap.size w w6 := below_named hw6 (below6 hbw4 hg5)
        have hs6 := hbw6.size
        have k56 := heap_named hw6 (set6 k54)
        clear cu0 cu1 cu2 cu3 cu4 cu5 cf0 cf1 cf2 cf3 cf4 cf5
        clear hw6 k54 hbw4 hs4
        cases ru with
        | none =>
          rw [opt_none] at U
          refine (U.out _ (hR.below hbw6)).mono ?_
          intro e w7 hw7
          obtain ⟨rfl, hb7⟩ := hw7
          have hbw7 := hbw6.trans (hb7.mono hs6)
          have hs7 := hbw7.size
          have k57 := (hb7.block _ (heap_lt k56)).trans k56
          clear hb7 k56 hbw6 hs6
          obtain ⟨cu0, cu1, cu2, cu3, cu4, cu5⟩ := cells6 k57
          obtain ⟨cf0, cf1, cf2, cf3, cf4, cf5⟩ := free6 k57
          go_wp2_with fail
          refine calls_named fun w9 hw9 => ?_
          have hbw9 : Below w.heap.size w w9 := below_named hw9 (below6 hbw7 hg5)
          have hs9 := hbw9.size
          have k59 := heap_named hw9 (set6 k57)
          clear cu0 cu1 cu2 cu3 cu4 cu5 cf0 cf1 cf2 cf3 cf4 cf5
          clear hw9 k57 hbw7 hs7
          obtain ⟨cu0, cu1, cu2, cu3, cu4, cu5⟩ := cells6 k59
          obtain ⟨cf0, cf1, cf2, cf3, cf4, cf5⟩ := free6 k59
          cases rg with
          | none =>
            rw [opt_none] at G
            refine (G.out _ (hR.below hbw9)).mono ?_
            intro e w10 hw10
            obtain ⟨rfl, hb10⟩ := hw10
            have hbw10 := hbw9.trans (hb10.mono hs9)
            have hs10 := hbw10.size
            have k510 := (hb10.block _ (heap_lt k59)).trans k59
            clear hb10 k59 hbw9 hs9
            clear cu0 cu1 cu2 cu3 cu4 cu5 cf0 cf1 cf2 cf3 cf4 cf5
            obtain ⟨cu0, cu1, cu2, cu3, cu4, cu5⟩ := cells6 k510
            obtain ⟨cf0, cf1, cf2, cf3, cf4, cf5⟩ := free6 k510
            go_wp2_with fail
            refine calls_named fun w11 hw11 => ?_
            have hbw11 : Below w.heap.size w w11 := below_named hw11 (below6 hbw10 hg5)
            have hs11 := hbw11.size
            clear cu0 cu1 cu2 cu3 cu4 cu5 cf0 cf1 cf2 cf3 cf4 cf5
            clear hw11 k510 hbw10 hs10
            refine (WK.out _ (hT.below' hbw11)).mono ?_
            intro e w13 hw13
            obtain ⟨rfl, hb13⟩ := hw13
            have hbw13 := hbw11.trans (hb13.mono hs11)
            clear hb13
            go_wp2
            go_ret
            exact ⟨rfl, hbw13⟩
          | some p =>
            have hgr := hg.out _ rfl
            have RG := Lib.hid (fun W => right_any p W (by have := right_year hgr; omega))
            rw [hgr] at RG
            rw [opt_some] at G
            clear hgr
            unfold tmV Tm.cells at RG G
            obtain ⟨yp_, mop_, dp_, hp_, mip_, sp_⟩ := p
            simp only at RG G
            refine (G.out _ (hR.below hbw9)).mono ?_
            intro e w10 hw10
            obtain ⟨rfl, hb10⟩ := hw10
            have hbw10 := hbw9.trans (hb10.mono hs9)
            have hs10 := hbw10.size
            have k510 := (hb10.block _ (heap_lt k59)).trans k59
            clear hb10 k59 hbw9 hs9
            clear cu0 cu1 cu2 cu3 cu4 cu5 cf0 cf1 cf2 cf3 cf4 cf5
            obtain ⟨cu0, cu1, cu2, cu3, cu4, cu5⟩ := cells6 k510
            obtain ⟨cf0, cf1, cf2, cf3, cf4, cf5⟩ := free6 k510
            go_wp2_with fail
            refine calls_named fun w11 hw11 => ?_
            have hbw11 : Below w.heap.size w w11 := below_named hw11 (below6 hbw10 hg5)
            have hs11 := hbw11.size
            clear cu0 cu1 cu2 cu3 cu4 cu5 cf0 cf1 cf2 cf3 cf4 cf5
            clear hw11 k510 hbw10 hs10
            refine (RG.out _).mono ?_
            intro e w12 hw12
            obtain ⟨rfl, hb12⟩ := hw12
            have hbw12 := hbw11.trans (hb12.mono hs11)
            have hs12 := hbw12.size
            clear hb12
            go_wp2_with fail
            refine (WK.out _ (hT.below' hbw12)).mono ?_
            intro e w13 hw13
            obtain ⟨rfl, hb13⟩ := hw13
            have hbw13 := hbw12.trans (hb13.mono hs12)
            clear hb13
            go_wp2
            go_ret
            exact ⟨rfl, hbw13⟩
        | some u =>
          obtain ⟨hur, hu1, hu2⟩ := hu.out _ rfl
          have RU := Lib.hid (fun W => right_any u W (by omega))
          rw [hur] at RU
          rw [opt_some] at U
          clear hur
          unfold tmV Tm.cells at RU U
          obtain ⟨yu_, mou_, du_, hu_, miu_, su_⟩ := u
          simp only at RU U hu1 hu2
          refine (U.out _ (hR.below hbw6)).mono ?_
          intro e w7 hw7
          obtain ⟨rfl, hb7⟩ := hw7
          have hbw7 := hbw6.trans (hb7.mono hs6)
          have hs7 := hbw7.size
          have k57 := (hb7.block _ (heap_lt k56)).trans k56
          clear hb7 k56 hbw6 hs6
          obtain ⟨cu0, cu1, cu2, cu3, cu4, cu5⟩ := cells6 k57
          obtain ⟨cf0, cf1, cf2, cf3, cf4, cf5⟩ := free6 k57
          go_wp2_with fail
          refine calls_named fun w8 hw8 => ?_
          have hbw8 : Below w.heap.size w w8 := below_named hw8 (below6 hbw7 hg5)
          have hs8 := hbw8.size
          have k58 := heap_named hw8 (set6 k57)
          clear cu0 cu1 cu2 cu3 cu4 cu5 cf0 cf1 cf2 cf3 cf4 cf5
          clear hw8 k57 hbw7 hs7
          refine (RU.out _).mono ?_
          intro e w9 hw9
          obtain ⟨rfl, hb9⟩ := hw9
          have hbw9 := hbw8.trans (hb9.mono hs8)
          have hs9 := hbw9.size
          have k59 := (hb9.block _ (heap_lt k58)).trans k58
          clear hb9 k58 hbw8 hs8
          obtain ⟨cu0, cu1, cu2, cu3, cu4, cu5⟩ := cells6 k59
          obtain ⟨cf0, cf1, cf2, cf3, cf4, cf5⟩ := free6 k59
          have q1 : decide ((yu_ : Int) < 1950) = false := decide_eq_false (by omega)
          have q2 : decide (2050 ≤ (yu_ : Int)) = false := decide_eq_false (by omega)
          go_wp2_with fail
          cases rg with
          | none =>
            rw [opt_none] at G
            refine (G.out _ (hR.below hbw9)).mono ?_
            intro e w10 hw10
            obtain ⟨rfl, hb10⟩ := hw10
            have hbw10 := hbw9.trans (hb10.mono hs9)
            have hs10 := hbw10.size
            have k510 := (hb10.block _ (heap_lt k59)).trans k59
            clear hb10 k59 hbw9 hs9
            clear cu0 cu1 cu2 cu3 cu4 cu5 cf0 cf1 cf2 cf3 cf4 cf5
            obtain ⟨cu0, cu1, cu2, cu3, cu4, cu5⟩ := cells6 k510
            obtain ⟨cf0, cf1, cf2, cf3, cf4, cf5⟩ := free6 k510
            go_wp2_with fail
            refine calls_named fun w11 hw11 => ?_
            have hbw11 : Below w.heap.size w w11 := below_named hw11 (below6 hbw10 hg5)
            have hs11 := hbw11.size
            clear cu0 cu1 cu2 cu3 cu4 cu5 cf0 cf1 cf2 cf3 cf4 cf5
            clear hw11 k510 hbw10 hs10
            refine (WK.out _ (hT.below' hbw11)).mono ?_
            intro e w13 hw13
            obtain ⟨rfl, hb13⟩ := hw13
            have hbw13 := hbw11.trans (hb13.mono hs11)
            clear hb13
            go_wp2
            go_ret
            exact ⟨rfl, hbw13⟩
          | some p =>
            have hgr := hg.out _ rfl
            have RG := Lib.hid (fun W => right_any p W (by have := right_year hgr; omega))
            rw [hgr] at RG
            rw [opt_some] at G
            clear hgr
            unfold tmV Tm.cells at RG G
            obtain ⟨yp_, mop_, dp_, hp_, mip_, sp_⟩ := p
            simp only at RG G
            refine (G.out _ (hR.below hbw9)).mono ?_
            intro e w10 hw10
            obtain ⟨rfl, hb10⟩ := hw10
            have hbw10 := hbw9.trans (hb10.mono hs9)
            have hs10 := hbw10.size
            have k510 := (hb10.block _ (heap_lt k59)).trans k59
            clear hb10 k59 hbw9 hs9
            clear cu0 cu1 cu2 cu3 cu4 cu5 cf0 cf1 cf2 cf3 cf4 cf5
            obtain ⟨cu0, cu1, cu2, cu3, cu4, cu5⟩ := cells6 k510
            obtain ⟨cf0, cf1, cf2, cf3, cf4, cf5⟩ := free6 k510
            go_wp2_with fail
            refine calls_named fun w11 hw11 => ?_
            have hbw11 : Below w.heap.size w w11 := below_named hw11 (below6 hbw10 hg5)
            have hs11 := hbw11.size
            clear cu0 cu1 cu2 cu3 cu4 cu5 cf0 cf1 cf2 cf3 cf4 cf5
            clear hw11 k510 hbw10 hs10
            refine (RG.out _).mono ?_
            intro e w12 hw12
            obtain ⟨rfl, hb12⟩ := hw12
            have hbw12 := hbw11.trans (hb12.mono hs11)
            have hs12 := hbw12.size
            clear hb12
            go_wp2_with fail
            refine (WK.out _ (hT.below' hbw12)).mono ?_
            intro e w13 hw13
            obtain ⟨rfl, hb13⟩ := hw13
            have hbw13 := hbw12.trans (hb13.mono hs12)
            clear hb13
            go_wp2
            go_ret
            exact ⟨rfl, hbw13⟩
      | some v =>
        obtain ⟨_, hvr, hvb, hvy⟩ := hv.out _ rfl
        have WV := Lib.hid (fun W (h : Sizes W) => write_any v W h hvy)
        rw [hvb] at WV
        rw [readV_some] at RB'
        clear hvb hvy hvr
        unfold tmV Tm.cells at WV RB'
        obtain ⟨yv_, mov_, dv_, hv_, miv_, sv_⟩ := v
        simp only at WV RB'
        go_wp2_with fail
        refine (RB'.out _ (hR.below hbw3) (hT.below' hbw3)).mono ?_
        intro e w4 hw4
        obtain ⟨rfl, hb4⟩ := hw4
        have hbw4 := hbw3.trans (hb4.mono hs3)
        have hs4 := hbw4.size
        have k54 := (hb4.block _ (heap_lt k53)).trans k53
        clear ct0 ct1 ct2 ct3 ct4 ct5 cu0 cu1 cu2 cu3 cu4 cu5 cf0 cf1 cf2 cf3 cf4 cf5
        clear hb4 kt3 k53 hbw3 hs3 tt zt
        obtain ⟨cu0, cu1, cu2, cu3, cu4, cu5⟩ := cells6 k54
        obtain ⟨cf0, cf1, cf2, cf3, cf4, cf5⟩ := free6 k54
        go_wp2_with fail
        refine calls_named fun w5 hw5 => ?_
        have hbw5 : Below w.heap.size w w5 := below_named hw5 (below6 hbw4 hg5)
        have hs5 := hbw5.size
        have k55 := heap_named hw5 (set6 k54)
        clear cu0 cu1 cu2 cu3 cu4 cu5 cf0 cf1 cf2 cf3 cf4 cf5
        clear hw5 k54 hbw4 hs4
        refine (WV.out _ (hT.below' hbw5)).mono ?_
        rintro e w6 ⟨A6, n6, c6, rfl, hown6, hb6⟩
        have hbw6 := hbw5.trans (hb6.mono hs5)
        have hs6 := hbw6.size
        have k56 := (hb6.block _ (heap_lt k55)).trans k55
        clear hb6 k55 hbw5 hs5
        go_wp2_with fail
        refine (eq_any _ _ _ _ _ _ _ _ _ hown6.rb (hR.below hbw6)).mono ?_
        rintro e w' ⟨rfl, rfl⟩
        rw [beq_self]
        clear hown6
        go_wp2_with fail
        cases ru with
        | none =>
          rw [opt_none] at U
          refine (U.out _ (hR.below hbw6)).mono ?_
          intro e w7 hw7
          obtain ⟨rfl, hb7⟩ := hw7
          have hbw7 := hbw6.trans (hb7.mono hs6)
          have hs7 := hbw7.size
          have k57 := (hb7.block _ (heap_lt k56)).trans k56
          clear hb7 k56 hbw6 hs6
          obtain ⟨cu0, cu1, cu2, cu3, cu4, cu5⟩ := cells6 k57
          obtain ⟨cf0, cf1, cf2, cf3, cf4, cf5⟩ := free6 k57
          go_wp2_with fail
          refine calls_named fun w9 hw9 => ?_
          have hbw9 : Below w.heap.size w w9 := below_named hw9 (below6 hbw7 hg5)
          have hs9 := hbw9.size
          have k59 := heap_named hw9 (set6 k57)
          clear cu0 cu1 cu2 cu3 cu4 cu5 cf0 cf1 cf2 cf3 cf4 cf5
          clear hw9 k57 hbw7 hs7
          obtain ⟨cu0, cu1, cu2, cu3, cu4, cu5⟩ := cells6 k59
          obtain ⟨cf0, cf1, cf2, cf3, cf4, cf5⟩ := free6 k59
          cases rg with
          | none =>
            rw [opt_none] at G
            refine (G.out _ (hR.below hbw9)).mono ?_
            intro e w10 hw10
            obtain ⟨rfl, hb10⟩ := hw10
            have hbw10 := hbw9.trans (hb10.mono hs9)
            have hs10 := hbw10.size
            have k510 := (hb10.block _ (heap_lt k59)).trans k59
            clear hb10 k59 hbw9 hs9
            clear cu0 cu1 cu2 cu3 cu4 cu5 cf0 cf1 cf2 cf3 cf4 cf5
            obtain ⟨cu0, cu1, cu2, cu3, cu4, cu5⟩ := cells6 k510
            obtain ⟨cf0, cf1, cf2, cf3, cf4, cf5⟩ := free6 k510
            go_wp2_with fail
            refine calls_named fun w11 hw11 => ?_
            have hbw11 : Below w.heap.size w w11 := below_named hw11 (below6 hbw10 hg5)
            have hs11 := hbw11.size
            clear cu0 cu1 cu2 cu3 cu4 cu5 cf0 cf1 cf2 cf3 cf4 cf5
            clear hw11 k510 hbw10 hs10
            refine (WK.out _ (hT.below' hbw11)).mono ?_
            intro e w13 hw13
            obtain ⟨rfl, hb13⟩ := hw13
            have hbw13 := hbw11.trans (hb13.mono hs11)
            clear hb13
            go_wp2
            go_ret
            exact ⟨rfl, hbw13⟩
          | some p =>
            have hgr := hg.out _ rfl
            have RG := Lib.hid (fun W => right_any p W (by have := right_year hgr; omega))
            rw [hgr] at RG
            rw [opt_some] at G
            clear hgr
            unfold tmV Tm.cells at RG G
            obtain ⟨yp_, mop_, dp_, hp_, mip_, sp_⟩ := p
            simp only at RG G
            refine (G.out _ (hR.below hbw9)).mono ?_
            intro e w10 hw10
            obtain ⟨rfl, hb10⟩ := hw10
            have hbw10 := hbw9.trans (hb10.mono hs9)
            have hs10 := hbw10.size
            have k510 := (hb10.block _ (heap_lt k59)).trans k59
            clear hb10 k59 hbw9 hs9
            clear cu0 cu1 cu2 cu3 cu4 cu5 cf0 cf1 cf2 cf3 cf4 cf5
            obtain ⟨cu0, cu1, cu2, cu3, cu4, cu5⟩ := cells6 k510
            obtain ⟨cf0, cf1, cf2, cf3, cf4, cf5⟩ := free6 k510
            go_wp2_with fail
            refine calls_named fun w11 hw11 => ?_
            have hbw11 : Below w.heap.size w w11 := below_named hw11 (below6 hbw10 hg5)
            have hs11 := hbw11.size
            clear cu0 cu1 cu2 cu3 cu4 cu5 cf0 cf1 cf2 cf3 cf4 cf5
            clear hw11 k510 hbw10 hs10
            refine (RG.out _).mono ?_
            intro e w12 hw12
            obtain ⟨rfl, hb12⟩ := hw12
            have hbw12 := hbw11.trans (hb12.mono hs11)
            have hs12 := hbw12.size
            clear hb12
            go_wp2_with fail
            refine (WK.out _ (hT.below' hbw12)).mono ?_
            intro e w13 hw13
            obtain ⟨rfl, hb13⟩ := hw13
            have hbw13 := hbw12.trans (hb13.mono hs12)
            clear hb13
            go_wp2
            go_ret
            exact ⟨rfl, hbw13⟩
        | some u =>
          obtain ⟨hur, hu1, hu2⟩ := hu.out _ rfl
          have RU := Lib.hid (fun W => right_any u W (by omega))
          rw [hur] at RU
          rw [opt_some] at U
          clear hur
          unfold tmV Tm.cells at RU U
          obtain ⟨yu_, mou_, du_, hu_, miu_, su_⟩ := u
          simp only at RU U hu1 hu2
          refine (U.out _ (hR.below hbw6)).mono ?_
          intro e w7 hw7
          obtain ⟨rfl, hb7⟩ := hw7
          have hbw7 := hbw6.trans (hb7.mono hs6)
          have hs7 := hbw7.size
          have k57 := (hb7.block _ (heap_lt k56)).trans k56
          clear hb7 k56 hbw6 hs6
          obtain ⟨cu0, cu1, cu2, cu3, cu4, cu5⟩ := cells6 k57
          obtain ⟨cf0, cf1, cf2, cf3, cf4, cf5⟩ := free6 k57
          go_wp2_with fail
          refine calls_named fun w8 hw8 => ?_
          have hbw8 : Below w.heap.size w w8 := below_named hw8 (below6 hbw7 hg5)
          have hs8 := hbw8.size
          have k58 := heap_named hw8 (set6 k57)
          clear cu0 cu1 cu2 cu3 cu4 cu5 cf0 cf1 cf2 cf3 cf4 cf5
          clear hw8 k57 hbw7 hs7
          refine (RU.out _).mono ?_
          intro e w9 hw9
          obtain ⟨rfl, hb9⟩ := hw9
          have hbw9 := hbw8.trans (hb9.mono hs8)
          have hs9 := hbw9.size
          have k59 := (hb9.block _ (heap_lt k58)).trans k58
          clear hb9 k58 hbw8 hs8
          obtain ⟨cu0, cu1, cu2, cu3, cu4, cu5⟩ := cells6 k59
          obtain ⟨cf0, cf1, cf2, cf3, cf4, cf5⟩ := free6 k59
          have q1 : decide ((yu_ : Int) < 1950) = false := decide_eq_false (by omega)
          have q2 : decide (2050 ≤ (yu_ : Int)) = false := decide_eq_false (by omega)
          go_wp2_with fail
          cases rg with
          | none =>
            rw [opt_none] at G
            refine (G.out _ (hR.below hbw9)).mono ?_
            intro e w10 hw10
            obtain ⟨rfl, hb10⟩ := hw10
            have hbw10 := hbw9.trans (hb10.mono hs9)
            have hs10 := hbw10.size
            have k510 := (hb10.block _ (heap_lt k59)).trans k59
            clear hb10 k59 hbw9 hs9
            clear cu0 cu1 cu2 cu3 cu4 cu5 cf0 cf1 cf2 cf3 cf4 cf5
            obtain ⟨cu0, cu1, cu2, cu3, cu4, cu5⟩ := cells6 k510
            obtain ⟨cf0, cf1, cf2, cf3, cf4, cf5⟩ := free6 k510
            go_wp2_with fail
            refine calls_named fun w11 hw11 => ?_
            have hbw11 : Below w.heap.size w w11 := below_named hw11 (below6 hbw10 hg5)
            have hs11 := hbw11.size
            clear cu0 cu1 cu2 cu3 cu4 cu5 cf0 cf1 cf2 cf3 cf4 cf5
            clear hw11 k510 hbw10 hs10
            refine (WK.out _ (hT.below' hbw11)).mono ?_
            intro e w13 hw13
            obtain ⟨rfl, hb13⟩ := hw13
            have hbw13 := hbw11.trans (hb13.mono hs11)
            clear hb13
            go_wp2
            go_ret
            exact ⟨rfl, hbw13⟩
          | some p =>
            have hgr := hg.out _ rfl
            have RG := Lib.hid (fun W => right_any p W (by have := right_year hgr; omega))
            rw [hgr] at RG
            rw [opt_some] at G
            clear hgr
            unfold tmV Tm.cells at RG G
            obtain ⟨yp_, mop_, dp_, hp_, mip_, sp_⟩ := p
            simp only at RG G
            refine (G.out _ (hR.below hbw9)).mono ?_
            intro e w10 hw10
            obtain ⟨rfl, hb10⟩ := hw10
            have hbw10 := hbw9.trans (hb10.mono hs9)
            have hs10 := hbw10.size
            have k510 := (hb10.block _ (heap_lt k59)).trans k59
            clear hb10 k59 hbw9 hs9
            clear cu0 cu1 cu2 cu3 cu4 cu5 cf0 cf1 cf2 cf3 cf4 cf5
            obtain ⟨cu0, cu1, cu2, cu3, cu4, cu5⟩ := cells6 k510
            obtain ⟨cf0, cf1, cf2, cf3, cf4, cf5⟩ := free6 k510
            go_wp2_with fail
            refine calls_named fun w11 hw11 => ?_
            have hbw11 : Below w.heap.size w w11 := below_named hw11 (below6 hbw10 hg5)
            have hs11 := hbw11.size
            clear cu0 cu1 cu2 cu3 cu4 cu5 cf0 cf1 cf2 cf3 cf4 cf5
            clear hw11 k510 hbw10 hs10
            refine (RG.out _).mono ?_
            intro e w12 hw12
            obtain ⟨rfl, hb12⟩ := hw12
            have hbw12 := hbw11.trans (hb12.mono hs11)
            have hs12 := hbw12.size
            clear hb12
            go_wp2_with fail
            refine (WK.out _ (hT.below' hbw12)).mono ?_
            intro e w13 hw13
            obtain ⟨rfl, hb13⟩ := hw13
            have hbw13 := hbw12.trans (hb13.mono hs12)
            clear hb13
            go_wp2
            go_ret
            exact ⟨rfl, hbw13⟩
  · unfold tmV Tm.cells
    obtain ⟨yt_, mot_, dt_, ht_, mit_, st_⟩ := t
    simp only
    have d1 : decide (4096 < (n : Int)) = true := decide_eq_true (by omega)
    go_enter Tryd.func5, Tryd.ntmps5
    go_wp2_with fail
    refine (WK.out _ (hT.alloc _)).mono ?_
    intro e w1 hw1
    obtain ⟨rfl, hb1⟩ := hw1
    have hbw1 : Below w.heap.size w w1 := ((Below.refl _ _).alloc (Nat.le_refl _) _).trans (hb1.mono (by simp))
    clear hb1
    go_wp2
    go_ret
    exact ⟨rfl, hbw1⟩
end Go.Proofs.YtepakdgpaaeelaaDoor
