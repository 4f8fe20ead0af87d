/-
  pe: the statement on what any bytes say as an image.
-/
import Derived.Test.YtjfpiidofbjdhaaDoorPfE
import Derived.Test.YtjfpiidofbjdhaaDoorPeR
import Derived.Test.YtjfpiidofbjdhaaDoorPeX
import Derived.Test.YtjfpiidofbjdhaaDoorRows
import Derived.MakeChecks
import Derived.Test.YtjfpiidofbjdhaaDoorRoomy
import Derived.Test.YtjfpiidofbjdhaaDoorFam
namespace Go.Proofs.YtjfpiidofbjdhaaDoor
open Go.RowKit Go
set_option linter.unusedVariables false
set_option linter.unusedSimpArgs false
set_option maxRecDepth 100000
/-- WHAT THE ROWS' CONDITION GIVES THE WALKS. -/
theorem of_laid {W : World} (h : laidMetH Tryd.prog Rows.peParsesRow.laid W) : Sizes W := by
  rw [MakeChecks.laidMetH_plain _ _ _ (by kernel_rfl)] at h
  have ht : Lib.TabIs Tryd.prog W "lintel/octet.sizes" .i64 sizesZ :=
    Lib.tabIs_of_head (rest := []) g_sizes (show (Tryd.prog.globals[0]?).map (·.type) = some 118 by kernel_rfl) Tryd.underlying118 Tryd.underlying3 (by kernel_rfl) (by kernel_rfl) h
  exact ⟨by have := World.var?_cell g_sizes ht 0; have := World.block_lt_of_cell? W _ (this.trans (show _ = some (.int .i64 1) from rfl)); exact this, ht⟩
theorem wpList_load_rowG {P : Program} {ops : Array Oper} {rest : List Oper} {o : Oper} {a : Act} {w : World} {Q : Exit → Act → World → Prop} (hw : Region.wanted o (yielded ops a.tmps) = true) (ty : TypeId) (x : Operand) (ho : o.op = .load ty x)
    (g : Nat) (hx : a.eval x = .pointer (some ⟨g, 0, none⟩)) (t : TypeId) (cs : Array Value) (fr : Nat × Nat) (d : TypeDesc) (hg : w.heap[g]? = some (.cells cs t fr))
    (hu : P.underlying ty = some d) (hd : (match d with | .struct _ | .array _ _ => true | _ => false) = true) (hi : (P.info? ty).map (·.size) = some cs.size)
    (h : wpList P ops Q rest (a.put o.dst (.agg cs)) w) : wpList P ops Q (o :: rest) a w :=
  wpList_step fun K hK => by
    rw [if_pos hw]
    exact wp_load_row ty x ho g hx t cs fr d hg hu hd hi (hK _ _ h)
section
variable {w : World} {ops : Array Oper} {rest : List Oper} {o : Oper} {a : Act} {Q : Exit → Act → World → Prop}
theorem wpList_appV {s e k bytes : Nat} {z : Value} (T : RowT s e k bytes z) (sOp xOp : Operand) (ho : o.op = .call { callee := .builtin .append, args := #[sOp, xOp], argTypes := #[s, s] }) (hgd : o.guard = none) (hty : o.type = s)
    (base : Nat) (V : Option Addr) (m c0 : Nat) (vs : List Value) (hs : a.eval sOp = .slice V m c0) (hown : OwnR w base e k V m c0 vs)
    (A : Option Addr) (nn c : Nat) (news : List Value) (hx : a.eval xOp = .slice A nn c) (hl : news.length = nn * k) (hnews : ReadR w A news) (h1 : ∀ u ∈ news, u.oneCell' = true)
    (hlim : m + nn ≤ maxLen) (hbytes : (m + nn) * bytes ≤ 140737488355328) (hbase : base ≤ w.heap.size)
    (h : ∀ V' c' w', OwnR w' base e k V' (m + nn) c' (vs ++ news) → w.grownBy w' (blk V) → wpList Tryd.prog ops Q rest (a.put o.dst (.slice V' (m + nn) c')) w') : wpList Tryd.prog ops Q (o :: rest) a w := by
  cases A with
  | some ad =>
    refine wpList_appR T sOp xOp ho hgd hty base V m c0 vs hs hown ad nn c news hx hl ?_ h1 hlim hbytes hbase h
    intro j u hu
    obtain ⟨b, off, e1, hb, hc⟩ := hnews.at_ hu
    injection e1 with e1
    subst e1
    have : (⟨b, off, none⟩ : Addr).add j = ⟨b, off + j, none⟩ := by unfold Addr.add; split <;> simp_all
    rw [this]
    exact hc
  | none =>
    have hn0 : news = [] := by
      rcases news with _ | ⟨u, us⟩
      · rfl
      · obtain ⟨b, off, e1, _⟩ := hnews (by simp)
        cases e1
    subst hn0
    obtain rfl : nn = 0 := by
      have hp := T.pos
      rcases Nat.eq_zero_or_pos nn with h1 | h1
      · exact h1
      · have : 0 < nn * k := Nat.mul_pos h1 hp
        rw [← hl] at this
        simp at this
    refine wpList_plain hgd fun K hK => ?_
    obtain ⟨i, hi, hz0, hz1, hz2⟩ := info_parts T.info
    have hrun : (Builtin.append_ #[s, s] s #[.slice V m c0, .slice none 0 c]).run Tryd.prog w = .ok (.slice V m c0) w := by
      rcases hown.2 with ⟨hv, rfl⟩ | ⟨g, cap, cur, hv, _, _, hnc, _⟩
      · injection hv with h1 h2 h3
        subst h1; subst h3
        simp [Builtin.append_, run_underlying T.und, sizeOf, typeInfo, hi, Builtin.lenOf, Builtin.firstCells]
      · injection hv with h1 h2 h3
        subst h1; subst h3
        simp [Builtin.append_, run_underlying T.und, sizeOf, typeInfo, hi, Builtin.lenOf, Builtin.firstCells, hnc, storeCells]
    unfold Oper.wp execOp
    simp only [ho, resolve, invoke, builtin, Sem.run_bind, Sem.run_pure, Result.andThen_ok, List.map_toArray, List.map_cons, List.map_nil, hs, hx, hty, hrun]
    refine hK _ _ (h V c0 w ?_ (World.grownBy.refl w _))
    show OwnR w base e k V (m + 0) c0 (vs ++ [])
    rw [List.append_nil]
    exact hown
end
theorem rows_le (bs : List UInt8) : ∀ (m a : Nat) (l : List (List UInt8)), bs.length - a ≤ m → rowsQ bs a = some l → ∀ s ∈ l, s.length ≤ bs.length := by
  intro m
  induction m with
  | zero =>
    intro a l hm h s hs
    rw [rowsQ_end (by omega)] at h
    injection h with h
    subst h
    cases hs
  | succ m ih =>
    intro a l hm h s hs
    by_cases ha : a < bs.length
    · cases h3 : (rowOk bs a && fillB bs a) with
      | false => rw [rowsQ_no ha h3] at h; cases h
      | true =>
        rw [Bool.and_eq_true] at h3
        have h4 := rowOk_parts h3.1
        have h5 := padQ_le bs a
        rw [rowsQ_yes ha h3.1 h3.2] at h
        cases hr : rowsQ bs (a + padQ bs a) with
        | none => rw [hr] at h; cases h
        | some t =>
          rw [hr] at h
          injection h with h
          subst h
          rcases List.mem_cons.1 hs with rfl | hs
          · unfold cut
            rw [List.length_take, List.length_drop]; omega
          · exact ih _ t (by omega) hr s hs
    · rw [rowsQ_end (by omega)] at h
      injection h with h
      subst h
      cases hs
theorem sigs_le (bs : List UInt8) (im : Im) (h : parseQ bs = .inr im) : ∀ s ∈ im.sigs, s.length ≤ bs.length := by
  unfold parseQ at h
  split at h
  · cases h
  · split at h
    · cases h
    · split at h
      · injection h with h; subst h; intro s hs; simp [imOf] at hs
      · split at h
        · cases h
        · split at h
          · cases h
          · rename_i l hl
            split at h
            · cases h
            · injection h with h
              subst h
              exact rows_le bs _ _ l (Nat.le_refl _) hl
theorem parses_apart {W7 W8 : World} {b0 b1 : Nat} {A1 : Option Addr} {n c1 : Nat} {bi : List UInt8} {xs : List Own1} {gA : Nat} {V' : Option Addr} {k c' : Nat} (hin : OwnB W7 b0 A1 n c1 bi) (hx : ∀ x ∈ xs, OwnB W7 b1 x.1 x.2.1 x.2.2.1 x.2.2.2 ∧ x.2.1 ≤ 1000000) (hf : xs.Pairwise fun x y => blk x.1 = none ∨ blk x.1 ≠ blk y.1)
    (hlt : ∀ g, blk A1 = some g → g < b1) (ho7 : OwnR W7 b0 22 1 (some ⟨gA, 0, none⟩) 1 1 [Own1.val (A1, n, c1, bi)]) (ho8 : OwnR W8 b0 22 1 V' (1 + k) c' ([Own1.val (A1, n, c1, bi)] ++ xs.map Own1.val)) (hg8 : W7.grownBy W8 (blk (some ⟨gA, 0, none⟩))) (h01 : b0 ≤ b1) (hn : n ≤ 1000000) (hk : k ≤ 1000) :
    Calls Tryd.prog 18 #[.slice V' (1 + k) c'] W8 fun e w' => e = .returned (.bool true) ∧ Below b0 W8 w' := by
  obtain ⟨g8, hV, hg, hg9⟩ := ho8.shape (by have := ho8.cap.1; omega)
  subst hV
  have hl : xs.length = k := by
    have := ho8.len
    simp at this
    omega
  have hF := fam_list W8 b0 g8 ((A1, n, c1, bi) :: xs) (1 + k) c' (by rw [List.length_cons]; omega) ho8 (by
    intro x h
    rcases List.mem_cons.1 h with rfl | h
    · exact ⟨hin.kept hg8 (OwnR.ne hin.row ho7 (by decide)), hn⟩
    · exact ⟨((hx x h).1.kept hg8 (OwnR.ne (hx x h).1.row ho7 (by decide))).lower h01, (hx x h).2⟩) (List.pairwise_cons.2 ⟨fun y hy => by
      cases hk : blk A1 with
      | none => exact .inl rfl
      | some g =>
        refine .inr (fun e => ?_)
        have h1 := hlt g hk
        have h2 := ((hx y hy).1.blk_lt e.symm).1
        omega, hf⟩)
  exact apart_any _ _ _ _ _ _ _ _ b0 _ hF (by omega) (by omega)
set_option maxHeartbeats 4000000 in
theorem parses_mid (A : Option Addr) (n c : Nat) (w : World) (hS : Sizes w) (hn : 16384 < n) (hn2 : n ≤ 16777216) :
    Calls Tryd.prog 3 #[.slice A n c] w fun e w' => e = .returned (.bool true) ∧ Below w.heap.size w w' := by
  have t1 : decide ((16384 : Int) < (n : Int)) = true := by simp; omega
  have t2 : decide ((n : Int) ≤ 16777216) = true := by simp; omega
  have t2n : n ≤ 16777216 := hn2
  have C := Lib.hid (works_any w hS)
  go_enter Tryd.func3, Tryd.ntmps3
  go_wp2_with (fail)
  (with_reducible refine C.out.mono ?_)
  rintro e w1 ⟨rfl, h1⟩
  have H1 := Lib.hid h1
  clear h1
  go_wp2_with (fail)
  go_ret
  exact ⟨rfl, H1.out⟩
set_option maxHeartbeats 4000000 in
theorem parses_big (A : Option Addr) (n c : Nat) (bs : List UInt8) (w : World) (hR : RB w A n bs) (hS : Sizes w) (hnc : n ≤ c) (hcc : c ≤ 9223372036854775807) (hn : 16777216 < n) :
    Calls Tryd.prog 3 #[.slice A n c] w fun e w' => e = .returned (.bool true) ∧ Below w.heap.size w w' := by
  have t1 : decide ((16384 : Int) < (n : Int)) = true := by simp; omega
  have t2 : decide ((n : Int) ≤ 16777216) = false := by simp; omega
  have t2n : ¬ n ≤ 16777216 := by omega
  have t3 : decide ((16777216 : Int) < (n : Int)) = true := by simp; omega
  have he : parseQ bs = .inl 10 := by unfold parseQ; rw [if_pos (by have := hR.1; omega)]
  have C := Lib.hid (parse_any A n c bs w hR hS hnc hcc)
  have HE := Lib.hid he
  have HS := Lib.hid hS
  clear hR hS he
  go_enter Tryd.func3, Tryd.ntmps3
  go_wp2_with (fail)
  (with_reducible refine C.out.mono ?_)
  clear C
  rintro e w1 ⟨hp, hb1⟩
  rw [HE.out] at hp
  obtain rfl : e = .returned (.tuple #[.agg imZero, .int .i64 (10 : Nat)]) := hp
  have HB1 := Lib.hid hb1
  clear hb1
  go_upto_region 5 with (refine wpList_store_row rfl _ _ _ rfl w1.heap.size imZero rfl rfl _ _ (has_new w1 _) (by kernel_rfl) rfl (by simp [imZero, Value.oneCell']) ?_)
  refine wp_nm fun W3 hW3 => ?_
  have k3 : W3.heap[w1.heap.size]? = some (.cells imZero 28) := by rw [← hW3]; exact setRow_heap _ _ _ _ _ _ (has_new w1 _)
  have hb3 : Below w1.heap.size w1 W3 := by rw [← hW3]; exact below_setRow (kp_alloc (Below.refl _ _) _) (Nat.le_refl _) _
  have K3 := Lib.hid (And.intro k3 (kp_call HB1.out hb3))
  have C := Lib.hid (same_zero W3)
  clear hW3 k3 hb3
  go_wp2_with (first | (refine wpList_load_rowG rfl _ _ rfl w1.heap.size rfl _ _ _ _ K3.out.1 Tryd.underlying28 rfl (by kernel_rfl) ?_) | (go_at_call 14; refine C.out.mono ?_; rintro e w4 ⟨rfl, h4⟩; have H4 := Lib.hid (kp_call K3.out.2 h4); clear C h4) | (go_at_call 12; (with_reducible refine (works_any _ (HS.out.below' H4.out)).mono ?_); rintro e w5 ⟨rfl, h5⟩; have H5 := Lib.hid (kp_call H4.out h5); clear h5))
  go_ret
  exact ⟨rfl, H5.out⟩
set_option maxHeartbeats 8000000 in
theorem parses_small (A : Option Addr) (n c : Nat) (bs : List UInt8) (w : World) (hR : RB w A n bs) (hS : Sizes w) (hnc : n ≤ c) (hcc : c ≤ 9223372036854775807) (hn : n ≤ 16384) :
    Calls Tryd.prog 3 #[.slice A n c] w fun e w' => e = .returned (.bool true) ∧ Below w.heap.size w w' := by
  have t1 : decide ((16384 : Int) < (n : Int)) = false := by simp; omega
  have t3 : decide ((16777216 : Int) < (n : Int)) = false := by simp; omega
  have HR := Lib.hid hR
  have HS := Lib.hid hS
  have hbl := hR.1
  have C := Lib.hid (roomy_any A n c bs w hR (by omega))
  have KPT' : ∀ (A1 : Option Addr) (c1 : Nat) W, Roomed W w.heap.size A1 n c1 bs → RB W A n bs → Calls Tryd.prog 17 #[.slice A1 n c1, .slice A n c] W fun e w' => e = .returned (.bool true) ∧ W = w' :=
    fun A1 c1 W h1 h2 => (kept_any A1 A n n c1 c w.heap.size bs bs W h1 h2 (by omega)).mono fun e w' h => ⟨by rw [h.1]; simp, h.2⟩
  have KPT1 := Lib.hid KPT'
  clear hR hS
  go_enter Tryd.func3, Tryd.ntmps3
  go_wp2_with (fail)
  (with_reducible refine C.out.mono ?_)
  clear C
  rintro e W1 ⟨A1, c1, rfl, hroom, hb1⟩
  have hcp := hroom.2.cap
  have hc1 : n ≤ c1 ∧ c1 ≤ 9223372036854775807 := by unfold maxLen at hcp; omega
  have P := Lib.hid (parse_any A1 n c1 bs W1 hroom.rb (HS.out.below' hb1) hc1.1 hc1.2)
  have H1 := Lib.hid (And.intro hroom hb1)
  have KPT := Lib.hid (KPT1.out A1 c1)
  clear KPT' KPT1
  have hlt1 : ∀ g, blk A1 = some g → g < W1.heap.size := fun g hg => (hroom.2.blk_lt hg).2
  have HLT := Lib.hid hlt1
  clear hroom hb1 hcp hlt1
  go_wp2_with (fail)
  (with_reducible refine P.out.mono ?_)
  clear P
  rintro e W2 ⟨hp, hb2⟩
  have H2 := Lib.hid (And.intro (H1.out.1.below hb2 (Nat.le_refl _)) (kp_call H1.out.2 hb2))
  have hs12 : W1.heap.size ≤ W2.heap.size := hb2.size
  have hs01 : w.heap.size ≤ W1.heap.size := H1.out.2.size
  clear hb2
  cases hq : parseQ bs with
  | inl er =>
    rw [hq] at hp
    obtain rfl : e = .returned (.tuple #[.agg imZero, .int .i64 (er : Nat)]) := hp
    have HQ := Lib.hid hq
    clear hq
    go_upto_region 8 with (refine wpList_store_row rfl _ _ _ rfl W2.heap.size imZero rfl rfl _ _ (has_new W2 _) (by kernel_rfl) rfl (by simp [imZero, Value.oneCell']) ?_)
    refine wp_nm fun W3 hW3 => ?_
    have k3 : W3.heap[W2.heap.size]? = some (.cells imZero 28) := by rw [← hW3]; exact setRow_heap _ _ _ _ _ _ (has_new W2 _)
    have hb3 : Below W2.heap.size W2 W3 := by rw [← hW3]; exact below_setRow (kp_alloc (Below.refl _ _) _) (Nat.le_refl _) _
    have H3 := Lib.hid (And.intro k3 (And.intro (H2.out.1.below hb3 (Nat.le_refl _)) (kp_call H2.out.2 hb3)))
    have C := Lib.hid (dparse_any A n c bs W3 (HR.out.below H3.out.2.2) hnc hcc (by omega))
    clear hW3 k3 hb3 H1 H2
    go_wp2_with (fail)
    (with_reducible refine C.out.mono ?_)
    clear C
    rintro e W4 ⟨hp, hb4⟩
    rw [HQ.out] at hp
    obtain rfl : e = .returned (.tuple #[.agg imZero, .int .i64 (er : Nat)]) := hp
    have H4 := Lib.hid (And.intro (has_below H3.out.1 hb4) (And.intro (H3.out.2.1.below hb4 (Nat.le_refl _)) (kp_call H3.out.2.2 hb4)))
    clear hb4 H3
    go_upto_region 9 with (refine wpList_store_row rfl _ _ _ rfl W4.heap.size imZero rfl rfl _ _ (has_new W4 _) (by kernel_rfl) rfl (by simp [imZero, Value.oneCell']) ?_)
    refine wp_nm fun W5 hW5 => ?_
    have k5 : W5.heap[W4.heap.size]? = some (.cells imZero 28) := by rw [← hW5]; exact setRow_heap _ _ _ _ _ _ (has_new W4 _)
    have hb5 : Below W4.heap.size W4 W5 := by rw [← hW5]; exact below_setRow (kp_alloc (Below.refl _ _) _) (Nat.le_refl _) _
    have H5 := Lib.hid (And.intro (has_below H4.out.1 hb5) (And.intro k5 (And.intro (H4.out.2.1.below hb5 (Nat.le_refl _)) (kp_call H4.out.2.2 hb5))))
    have C := Lib.hid (same_zero W5)
    clear hW5 k5 hb5 H4
    go_upto_region 11 with (first
      | (refine wpList_load_rowG rfl _ _ rfl W2.heap.size rfl _ _ _ _ H5.out.1 Tryd.underlying28 rfl (by kernel_rfl) ?_)
      | (refine wpList_load_rowG rfl _ _ rfl W4.heap.size rfl _ _ _ _ H5.out.2.1 Tryd.underlying28 rfl (by kernel_rfl) ?_)
      | (go_at_call 14; refine C.out.mono ?_; rintro e W6 ⟨rfl, hb6⟩; have H6 := Lib.hid (And.intro (has_below H5.out.1 hb6) (And.intro (H5.out.2.2.1.below hb6 (Nat.le_refl _)) (kp_call H5.out.2.2.2 hb6))); clear C hb6)
      | (go_at_call 17; (with_reducible refine (KPT.out _ H6.out.2.1 (HR.out.below H6.out.2.2)).mono ?_); rintro e w7 ⟨rfl, rfl⟩))
    have HXS : Hid ((∀ x ∈ ([] : List Own1), OwnB W6 W1.heap.size x.1 x.2.1 x.2.2.1 x.2.2.2 ∧ x.2.1 ≤ 1000000) ∧ ([] : List Own1).Pairwise (fun x y => blk x.1 = none ∨ blk x.1 ≠ blk y.1) ∧ ReadR W6 none (([] : List Own1).map Own1.val) ∧ ([] : List Own1).length = 0) := Lib.hid ⟨(fun x hx => by cases hx), List.Pairwise.nil, fun h => absurd rfl h, rfl⟩
    have HIN6 : Hid (OwnB W6 w.heap.size A1 n c1 ((bs ++ marks).take n)) := Lib.hid (H6.out.2.1.2.cutTo n (by omega))
    obtain ⟨z0, z1, z2, z3, z4, z5, z6, z7⟩ := cells_8 (show W6.heap[W2.heap.size]? = some (.cells #[.bool false, .int .i64 0, .int .i64 0, .int .u32 0, .slice none 0 0, .int .u32 0, .int .u32 0, .slice none 0 0] 28) from H6.out.1)
    go_upto_region 12 with (fail)
    refine wp_nm fun W7 hW7 => ?_
    have hb7 : Below W6.heap.size W6 W7 := by rw [← hW7]; exact kp_alloc (Below.refl _ _) _
    have hs06 : w.heap.size ≤ W6.heap.size := H6.out.2.2.size
    have HO7 : Hid (OwnR W7 w.heap.size 22 1 (some ⟨W6.heap.size, 0, none⟩) 1 1 [Own1.val (A1, n, c1, (bs ++ marks).take n)]) := by rw [← hW7]; exact Lib.hid ((OwnR.lit W6 22 1 #[.slice A1 n c1] 1 (by decide) rfl).lower hs06)
    have HIN7 := Lib.hid (HIN6.out.below hb7 (Nat.le_refl _))
    have HX7 := Lib.hid (And.intro (fun x hx => And.intro ((HXS.out.1 x hx).1.below hb7 (Nat.le_refl _)) (HXS.out.1 x hx).2) (And.intro HXS.out.2.1 (And.intro (HXS.out.2.2.1.below hb7 (Nat.le_refl _)) HXS.out.2.2.2)))
    have HB7 := Lib.hid (kp_call H6.out.2.2 hb7)
    obtain ⟨z0, z1, z2, z3, z4, z5, z6, z7⟩ := cells_8 (show W7.heap[W2.heap.size]? = some (.cells #[.bool false, .int .i64 0, .int .i64 0, .int .u32 0, .slice none 0 0, .int .u32 0, .int .u32 0, .slice none 0 0] 28) from has_below H6.out.1 hb7)
    have hs07 : w.heap.size ≤ W7.heap.size := HB7.out.size
    have hkk := HX7.out.2.2.2
    have H1C : ∀ u ∈ ([] : List Own1).map Own1.val, u.oneCell' = true := by
      intro u hu
      obtain ⟨x, _, rfl⟩ := List.mem_map.1 hu
      rfl
    have HC1 := Lib.hid H1C
    clear hW7 hb7 HXS HIN6 H6 H1C
    go_wp2_with (first
      | (at_builtin; refine wpList_appV bss_rowP _ _ rfl rfl rfl w.heap.size (some ⟨W6.heap.size, 0, none⟩) 1 1 _ rfl HO7.out none 0 0 (([] : List Own1).map Own1.val) rfl (by rw [List.length_map]; omega) HX7.out.2.2.1 HC1.out (by unfold maxLen; omega) (by omega) hs07 ?_; intro V' c' W8 ho8 hg8; have HO8 := Lib.hid ho8; have HG8 := Lib.hid hg8; have HAP := Lib.hid (parses_apart HIN7.out HX7.out.1 HX7.out.2.1 HLT.out HO7.out HO8.out HG8.out hs01 (by omega) (by omega)); have HB8 : Hid (Below w.heap.size w W8) := Lib.hid (HB7.out.grown HG8.out HB7.out.size (fun q hq => (HO7.out.blk_lt hq).1)); clear ho8 hg8)
      | (go_at_call 18; (with_reducible refine HAP.out.mono ?_); rintro e W9 ⟨rfl, hb9⟩; have HB9 : Hid (Below w.heap.size w W9) := Lib.hid (HB8.out.trans hb9); clear hb9)
      | (go_at_call 12; (with_reducible refine (works_any _ (HS.out.below' HB9.out)).mono ?_); rintro e W10 ⟨rfl, hb10⟩; have HB10 := Lib.hid (kp_call HB9.out hb10); clear hb10))
    go_ret
    exact ⟨rfl, HB10.out⟩
  | inr im =>
    rw [hq] at hp
    obtain ⟨V, m, cV, U, k, cU, xs, rfl, ho⟩ := hp
    have hparts := im_parts bs im hq
    have hsecl : m ≤ 1000 := by
      have h1 := secs_parts bs hparts.1
      have h2 := ho.ml
      have h3 := hparts.2.2.2.1
      rw [hparts.2.1] at h2
      omega
    have hk8 : k ≤ 8 := by
      have h1 := ho.kl
      have h2 := congrArg List.length ho.bytes
      rw [List.length_map] at h2
      have h3 := hparts.2.2.2.2.2.2.2.2.2.1
      omega
    have hsl := sigs_le bs im hq
    have HQ := Lib.hid hq
    have HO2 := Lib.hid ho
    clear hq ho hparts
    go_upto_region 8 with (refine wpList_store_row rfl _ _ _ rfl W2.heap.size (imVal im V m cV U k cU) rfl rfl _ _ (has_new W2 _) (by kernel_rfl) rfl (by simp [imVal, Value.oneCell']) ?_)
    refine wp_nm fun W3 hW3 => ?_
    have k3 : W3.heap[W2.heap.size]? = some (.cells (imVal im V m cV U k cU) 28) := by rw [← hW3]; exact setRow_heap _ _ _ _ _ _ (has_new W2 _)
    have hb3 : Below W2.heap.size W2 W3 := by rw [← hW3]; exact below_setRow (kp_alloc (Below.refl _ _) _) (Nat.le_refl _) _
    have H3 := Lib.hid (And.intro k3 (And.intro (H2.out.1.below hb3 (Nat.le_refl _)) (kp_call H2.out.2 hb3)))
    have HI3 := Lib.hid (And.intro (HO2.out.rd.below hb3) (HO2.out.own.below hb3))
    have C := Lib.hid (dparse_any A n c bs W3 (HR.out.below H3.out.2.2) hnc hcc (by omega))
    clear hW3 k3 hb3 H1 H2
    go_wp2_with (fail)
    (with_reducible refine C.out.mono ?_)
    clear C
    rintro e W4 ⟨hp, hb4⟩
    rw [HQ.out] at hp
    obtain ⟨V', m', cV', U', k', cU', xs', rfl, hi'⟩ := hp
    have H4 := Lib.hid (And.intro (has_below H3.out.1 hb4) (And.intro (H3.out.2.1.below hb4 (Nat.le_refl _)) (kp_call H3.out.2.2 hb4)))
    have HI4 := Lib.hid (And.intro (HI3.out.1.below hb4) (And.intro (HI3.out.2.below hb4) hi'))
    clear hb4 H3 HI3 hi'
    go_upto_region 9 with (refine wpList_store_row rfl _ _ _ rfl W4.heap.size (imVal im V' m' cV' U' k' cU') rfl rfl _ _ (has_new W4 _) (by kernel_rfl) rfl (by simp [imVal, Value.oneCell']) ?_)
    refine wp_nm fun W5 hW5 => ?_
    have k5 : W5.heap[W4.heap.size]? = some (.cells (imVal im V' m' cV' U' k' cU') 28) := by rw [← hW5]; exact setRow_heap _ _ _ _ _ _ (has_new W4 _)
    have hb5 : Below W4.heap.size W4 W5 := by rw [← hW5]; exact below_setRow (kp_alloc (Below.refl _ _) _) (Nat.le_refl _) _
    have H5 := Lib.hid (And.intro (has_below H4.out.1 hb5) (And.intro k5 (And.intro (H4.out.2.1.below hb5 (Nat.le_refl _)) (kp_call H4.out.2.2 hb5))))
    have HI5 := Lib.hid (And.intro (HI4.out.1.below hb5) (HI4.out.2.1.below hb5))
    have C := Lib.hid (same_im im V m cV U k cU xs V' m' cV' U' k' cU' xs' W5 HI5.out.1 (HI4.out.2.2.below hb5) hsecl (by omega))
    clear hW5 k5 hb5 H4 HI4
    go_upto_region 11 with (first
      | (refine wpList_load_rowG rfl _ _ rfl W2.heap.size rfl _ _ _ _ H5.out.1 Tryd.underlying28 rfl (by kernel_rfl) ?_)
      | (refine wpList_load_rowG rfl _ _ rfl W4.heap.size rfl _ _ _ _ H5.out.2.1 Tryd.underlying28 rfl (by kernel_rfl) ?_)
      | (go_at_call 14; (with_reducible refine C.out.mono ?_); rintro e W6 ⟨rfl, hb6⟩; have H6 := Lib.hid (And.intro (has_below H5.out.1 hb6) (And.intro (H5.out.2.2.1.below hb6 (Nat.le_refl _)) (kp_call H5.out.2.2.2 hb6))); have HI6 := Lib.hid (And.intro (HI5.out.1.below hb6) (HI5.out.2.below hb6)); clear C hb6)
      | (go_at_call 17; (with_reducible refine (KPT.out _ H6.out.2.1 (HR.out.below H6.out.2.2)).mono ?_); rintro e w7 ⟨rfl, rfl⟩))
    have HXS : Hid ((∀ x ∈ xs, OwnB W6 W1.heap.size x.1 x.2.1 x.2.2.1 x.2.2.2 ∧ x.2.1 ≤ 1000000) ∧ xs.Pairwise (fun x y => blk x.1 = none ∨ blk x.1 ≠ blk y.1) ∧ ReadR W6 U (xs.map Own1.val) ∧ xs.length = k) := Lib.hid ⟨fun x hx => ⟨(HI6.out.2.own x hx).1, by
        have h1 := (HI6.out.2.own x hx).1.len
        have h2 := hsl x.2.2.2 (by rw [← HI6.out.1.bytes]; exact List.mem_map_of_mem (f := fun x : Own1 => x.2.2.2) hx)
        omega⟩, HI6.out.2.far, HI6.out.1.sigs, HI6.out.1.kl.symm⟩
    have HIN6 : Hid (OwnB W6 w.heap.size A1 n c1 ((bs ++ marks).take n)) := Lib.hid (H6.out.2.1.2.cutTo n (by omega))
    obtain ⟨z0, z1, z2, z3, z4, z5, z6, z7⟩ := cells_8 (show W6.heap[W2.heap.size]? = some (.cells #[.bool im.plus, .int .i64 (im.check : Nat), .int .i64 (im.dir : Nat), .int .u32 (im.hdr : Nat), .slice V m cV, .int .u32 (im.table : Nat), .int .u32 (im.length : Nat), .slice U k cU] 28) from H6.out.1)
    go_upto_region 12 with (fail)
    refine wp_nm fun W7 hW7 => ?_
    have hb7 : Below W6.heap.size W6 W7 := by rw [← hW7]; exact kp_alloc (Below.refl _ _) _
    have hs06 : w.heap.size ≤ W6.heap.size := H6.out.2.2.size
    have HO7 : Hid (OwnR W7 w.heap.size 22 1 (some ⟨W6.heap.size, 0, none⟩) 1 1 [Own1.val (A1, n, c1, (bs ++ marks).take n)]) := by rw [← hW7]; exact Lib.hid ((OwnR.lit W6 22 1 #[.slice A1 n c1] 1 (by decide) rfl).lower hs06)
    have HIN7 := Lib.hid (HIN6.out.below hb7 (Nat.le_refl _))
    have HX7 := Lib.hid (And.intro (fun x hx => And.intro ((HXS.out.1 x hx).1.below hb7 (Nat.le_refl _)) (HXS.out.1 x hx).2) (And.intro HXS.out.2.1 (And.intro (HXS.out.2.2.1.below hb7 (Nat.le_refl _)) HXS.out.2.2.2)))
    have HB7 := Lib.hid (kp_call H6.out.2.2 hb7)
    obtain ⟨z0, z1, z2, z3, z4, z5, z6, z7⟩ := cells_8 (show W7.heap[W2.heap.size]? = some (.cells #[.bool im.plus, .int .i64 (im.check : Nat), .int .i64 (im.dir : Nat), .int .u32 (im.hdr : Nat), .slice V m cV, .int .u32 (im.table : Nat), .int .u32 (im.length : Nat), .slice U k cU] 28) from has_below H6.out.1 hb7)
    have hs07 : w.heap.size ≤ W7.heap.size := HB7.out.size
    have hkk := HX7.out.2.2.2
    have H1C : ∀ u ∈ xs.map Own1.val, u.oneCell' = true := by
      intro u hu
      obtain ⟨x, _, rfl⟩ := List.mem_map.1 hu
      rfl
    have HC1 := Lib.hid H1C
    clear hW7 hb7 HXS HIN6 H6 H1C
    go_wp2_with (first
      | (at_builtin; refine wpList_appV bss_rowP _ _ rfl rfl rfl w.heap.size (some ⟨W6.heap.size, 0, none⟩) 1 1 _ rfl HO7.out U k cU (xs.map Own1.val) rfl (by rw [List.length_map]; omega) HX7.out.2.2.1 HC1.out (by unfold maxLen; omega) (by omega) hs07 ?_; intro V' c' W8 ho8 hg8; have HO8 := Lib.hid ho8; have HG8 := Lib.hid hg8; have HAP := Lib.hid (parses_apart HIN7.out HX7.out.1 HX7.out.2.1 HLT.out HO7.out HO8.out HG8.out hs01 (by omega) (by omega)); have HB8 : Hid (Below w.heap.size w W8) := Lib.hid (HB7.out.grown HG8.out HB7.out.size (fun q hq => (HO7.out.blk_lt hq).1)); clear ho8 hg8)
      | (go_at_call 18; (with_reducible refine HAP.out.mono ?_); rintro e W9 ⟨rfl, hb9⟩; have HB9 : Hid (Below w.heap.size w W9) := Lib.hid (HB8.out.trans hb9); clear hb9)
      | (go_at_call 12; (with_reducible refine (works_any _ (HS.out.below' HB9.out)).mono ?_); rintro e W10 ⟨rfl, hb10⟩; have HB10 := Lib.hid (kp_call HB9.out hb10); clear hb10))
    go_ret
    exact ⟨rfl, HB10.out⟩
theorem parses_row (A : Option Addr) (n c : Nat) (bs : List UInt8) (w : World) (h : IsBs w A n c bs) (hT : Sizes w) :
    Calls Tryd.prog 3 #[.slice A n c] w fun e w' => e = .returned (.bool true) ∧ Below w.heap.size w w' := by
  have hm := h.max
  unfold maxLen at hm
  by_cases hn : n ≤ 16384
  · exact parses_small A n c bs w h.rb hT h.le (by omega) hn
  by_cases hn2 : n ≤ 16777216
  · exact parses_mid A n c w hT (by omega) hn2
  · exact parses_big A n c bs w h.rb hT h.le (by omega) (by omega)
end Go.Proofs.YtjfpiidofbjdhaaDoor
