/-
  siglist: the document's Merge (made by genSi2.py).
-/
import Derived.Test.YtfampefflkkckaaDoorSiBe
import Derived.Maps.AppendAt
namespace Go.Proofs.YtfampefflkkckaaDoor
open Go.RowKit Go
set_option linter.unusedVariables false
set_option linter.unusedSimpArgs false
set_option maxRecDepth 100000
section
variable {w : World} {ops : Array Oper} {rest : List Oper} {o : Oper} {a : Act} {Q : Exit → Act → World → Prop}
theorem wpList_appRt {s e k bytes : Nat} {z : Value} (T : RowT s e k bytes z) (sOp xOp : Operand) (ho : o.op = .call { callee := .builtin .append, args := #[sOp, xOp], argTypes := #[s, s] }) (hgd : o.guard = none) (hty : o.type = s)
    (base : Nat) (V : Option Addr) (m c0 : Nat) (vs : List Value) (hs : a.eval sOp = .slice V m c0) (hown : OwnR w base e k V m c0 vs)
    (ad : Addr) (nn c : Nat) (news : List Value) (hx : a.eval xOp = .slice (some ad) nn c) (hl : news.length = nn * k) (hnews : ∀ (j : Nat) (u : Value), news[j]? = some u → w.cell? (ad.add j) = some u) (h1 : ∀ u ∈ news, u.oneCell' = true)
    (hlim : m + nn ≤ maxLen) (hbytes : (m + nn) * bytes ≤ 140737488355328) (hbase : base ≤ w.heap.size)
    (h : ∀ V' c' w', OwnR w' base e k V' (m + nn) c' (vs ++ news) → w.grownBy w' (blk V) → (blk V' = blk V ∨ blk V' = some w.heap.size) → wpList Tryd.prog ops Q rest (a.put o.dst (.slice V' (m + nn) c')) w') : wpList Tryd.prog ops Q (o :: rest) a w := by
  refine wpList_plain hgd fun K hK => ?_
  obtain ⟨i, hi, hz0, hz1, hz2⟩ := info_parts T.info
  obtain ⟨v', w', hrun, h2, h3, _, h5⟩ := run_append_own_at (P := Tryd.prog) w base s s e i z k bytes T.und hi hz0 hz1 hz2 T.zs T.pos (.slice V m c0) m vs hown ad nn c news hl hnews h1 hlim hbytes hbase
  rw [blk_own] at h3 h5
  have hsh : ∃ V' c', v' = .slice V' (m + nn) c' := by
    rcases h2.2 with ⟨rfl, hn⟩ | ⟨g, cap, cur, rfl, _⟩
    · exact ⟨none, 0, by rw [hn]⟩
    · exact ⟨_, _, rfl⟩
  obtain ⟨V', c', rfl⟩ := hsh
  rw [blk_own] at h5
  unfold Oper.wp execOp
  simp only [ho, resolve, invoke, builtin, Sem.run_bind, Sem.run_pure, Result.andThen_ok, List.map_toArray, List.map_cons, List.map_nil, hs, hx, hty, hrun]
  exact hK _ _ (h V' c' w' h2 h3 h5)
/-- Appending a list that was just built. -/
theorem wpList_appLt {s e k bytes : Nat} {z : Value} (T : RowT s e k bytes z) (sOp xOp : Operand) (ho : o.op = .call { callee := .builtin .append, args := #[sOp, xOp], argTypes := #[s, s] }) (hgd : o.guard = none) (hty : o.type = s)
    (base : Nat) (V : Option Addr) (m c0 : Nat) (vs : List Value) (hs : a.eval sOp = .slice V m c0) (hown : OwnR w base e k V m c0 vs)
    (g nn c : Nat) (cs : Array Value) (mk : Nat × Nat) (hx : a.eval xOp = .slice (some ⟨g, 0, none⟩) nn c) (hg : w.heap[g]? = some (.cells cs e mk)) (hl : cs.size = nn * k) (h1 : ∀ u ∈ cs.toList, u.oneCell' = true)
    (hlim : m + nn ≤ maxLen) (hbytes : (m + nn) * bytes ≤ 140737488355328) (hbase : base ≤ w.heap.size)
    (h : ∀ V' c' w', OwnR w' base e k V' (m + nn) c' (vs ++ cs.toList) → w.grownBy w' (blk V) → (blk V' = blk V ∨ blk V' = some w.heap.size) → wpList Tryd.prog ops Q rest (a.put o.dst (.slice V' (m + nn) c')) w') : wpList Tryd.prog ops Q (o :: rest) a w :=
  wpList_appRt T sOp xOp ho hgd hty base V m c0 vs hs hown ⟨g, 0, none⟩ nn c cs.toList hx (by simpa using hl) (cells_lit w g cs e mk hg) h1 hlim hbytes hbase h
end
theorem wpList_load_rowG {P : Program} {ops : Array Oper} {rest : List Oper} {o : Oper} {a : Act} {w : World} {Q : Exit → Act → World → Prop} (hw : Region.wanted o (yielded ops a.tmps) = true) (ty : TypeId) (x : Operand) (ho : o.op = .load ty x)
    (g : Nat) (hx : a.eval x = .pointer (some ⟨g, 0, none⟩)) (t : TypeId) (cs : Array Value) (fr : Nat × Nat) (d : TypeDesc) (hg : w.heap[g]? = some (.cells cs t fr))
    (hu : P.underlying ty = some d) (hd : (match d with | .struct _ | .array _ _ => true | _ => false) = true) (hi : (P.info? ty).map (·.size) = some cs.size)
    (h : wpList P ops Q rest (a.put o.dst (.agg cs)) w) : wpList P ops Q (o :: rest) a w :=
  wpList_step fun K hK => by
    rw [if_pos hw]
    exact wp_load_row ty x ho g hx t cs fr d hg hu hd hi (hK _ _ h)

attribute [local go_sem ↓] Go.wp_at_zero Go.wp_at_succ
theorem ListsOwn.lower {w : World} {base base' n c : Nat} {A : Option Addr} {l : List Lst} (h : ListsOwn w base A n c l) (hb : base' ≤ base) : ListsOwn w base' A n c l := by
  obtain ⟨ls, h1, h2, h3⟩ := h
  exact ⟨ls, h1, h2.lower hb, h3.lower hb⟩
theorem ListsOwn.blk {w : World} {base n c : Nat} {A : Option Addr} {l : List Lst} (h : ListsOwn w base A n c l) {g : Nat} (hg : blk A = some g) : base ≤ g ∧ g < w.heap.size := by
  obtain ⟨ls, h1, h2, h3⟩ := h
  exact h2.blk_lt hg
theorem ListsOwn.z {w : World} {base n c : Nat} {A : Option Addr} {l : List Lst} (h : ListsOwn w base A n c l) : ∃ ls : List LM, ls.map LM.lst = l ∧ ListsZ w A n ls := by
  obtain ⟨ls, h1, h2, h3⟩ := h
  exact ⟨ls, h1, own_lists h2 h3⟩
theorem ListsOwn.cap {w : World} {base n c : Nat} {A : Option Addr} {l : List Lst} (h : ListsOwn w base A n c l) : n ≤ c ∧ c ≤ 9223372036854775807 := by
  obtain ⟨ls, h1, h2, h3⟩ := h
  have := h2.cap
  unfold maxLen at this
  exact ⟨this.1, by omega⟩
theorem ListsOwn.len {w : World} {base n c : Nat} {A : Option Addr} {l : List Lst} (h : ListsOwn w base A n c l) : l.length = n := by
  obtain ⟨ls, h1, h2⟩ := h.z
  rw [← h1, List.length_map]; exact h2.len
theorem merge_small (m : List Lst) (s : List KI) (N : Nat) (h : ∀ x ∈ m, x.2.length ≤ N) : (∀ x ∈ mergeQ m s, x.2.length ≤ N) ∧ (mergeQ m s).length ≤ m.length := by
  induction m generalizing s with
  | nil => exact ⟨(fun x hx => by cases hx), Nat.le_refl _⟩
  | cons x m ih =>
    have hm := ih (seenQ x.1 x.2 s) fun y hy => h y (List.mem_cons_of_mem _ hy)
    rw [mergeQ]
    split
    · exact ⟨hm.1, Nat.le_trans hm.2 (Nat.le_succ _)⟩
    · refine ⟨fun y hy => ?_, Nat.succ_le_succ hm.2⟩
      rcases List.mem_cons.1 hy with rfl | hy
      · exact Nat.le_trans (fresh_le _ _ _) (h x (List.mem_cons_self ..))
      · exact hm.1 y hy
theorem fresh_congr (k : UInt8) (is : List Itm) (s s' : List KI) (h : ∀ z, z ∈ s ↔ z ∈ s') : freshQ k is s = freshQ k is s' := by
  induction is generalizing s s' with
  | nil => rfl
  | cons y is ih =>
    rw [freshQ, freshQ]
    by_cases hy : (k, y) ∈ s
    · rw [if_pos hy, if_pos ((h _).1 hy)]; exact ih _ _ h
    · rw [if_neg hy, if_neg (fun e => hy ((h _).2 e))]
      rw [ih ((k, y) :: s) ((k, y) :: s') (fun z => by rw [List.mem_cons, List.mem_cons, h z])]
theorem merge_succ (xl yl : List Lst) (i : Nat) (x : Lst) (hx : yl[i]? = some x) : xl ++ mergeQ (yl.take (i + 1)) (flatK xl) = (xl ++ mergeQ (yl.take i) (flatK xl)) ++ (if freshQ x.1 x.2 (flatK (xl ++ mergeQ (yl.take i) (flatK xl))) = [] then [] else [(x.1, freshQ x.1 x.2 (flatK (xl ++ mergeQ (yl.take i) (flatK xl))))]) := by
  have e : freshQ x.1 x.2 (flatK (xl ++ mergeQ (yl.take i) (flatK xl))) = freshQ x.1 x.2 (seenM (yl.take i) (flatK xl)) := fresh_congr _ _ _ _ fun z => by
    rw [flatK_append, List.mem_append, merge_mem, seenM_mem]
    by_cases h : z ∈ flatK xl <;> simp [h]
  rw [e, List.take_add_one, hx, Option.toList_some, merge_snoc, List.append_assoc]
theorem one_row {W : World} {g : Nat} {k : UInt8} {V : Option Addr} {m c : Nat} {is : List Itm} {t : TypeId} {fr : Nat × Nat} (h : W.heap[g]? = some (.cells #[.int .u8 (k.toNat : Int), .slice V m c] t fr)) : ReadR W (some ⟨g, 0, none⟩) ([(⟨k, is, V, m, c⟩ : LM)].flatMap LM.cells) := fun _ => ⟨g, 0, rfl, block_lt h, fun j u hu => by
  rw [Nat.zero_add, cell_of_row _ _ _ _ _ _ h, List.getElem?_toArray]
  exact hu⟩
theorem lim_m {w : World} {A : Option Addr} {n m : Nat} {ls : List LM} (hz : ListsZ w A n ls) (h : ∀ x ∈ ls.map LM.lst, x.2.length ≤ m) : ∀ z ∈ ls, z.n ≤ m := fun z hz1 => by
  obtain ⟨zs, h1⟩ := hz.each z hz1
  rw [← lm_n h1]
  exact h z.lst (List.mem_map_of_mem hz1)
theorem allB_ge (l : List Lst) : 12 * l.length ≤ (allB l).length := by
  induction l with
  | nil => exact Nat.le_refl _
  | cons x l ih =>
    obtain ⟨k, is⟩ := x
    rw [allB_cons, List.length_append, lstB_len, List.length_cons]
    omega
/-- What is in the new list, or ahead of it. -/
theorem stand_in (k : UInt8) (is : List Itm) (S : List KI) (y : Itm) : (k, y) ∈ seenQ k is S ↔ (k, y) ∈ S ∨ (k, y) ∈ flatK [(k, freshQ k is S)] := by
  rw [seen_mem, mem_flat]
  constructor
  · rintro (h | ⟨_, h⟩)
    · exact .inl h
    · by_cases hs : (k, y) ∈ S
      · exact .inl hs
      · exact .inr ⟨_, List.mem_singleton.2 rfl, rfl, (fresh_mem _ _ _ _).2 ⟨h, hs⟩⟩
  · rintro (h | ⟨x, hx, _, h⟩)
    · exact .inl h
    · rw [List.mem_singleton.1 hx] at h
      exact .inr ⟨rfl, ((fresh_mem _ _ _ _).1 h).1⟩
section
variable (A : Option Addr) (n c : Nat) (xa : List UInt8) (D : Option Addr) (m d : Nat) (xb : List UInt8) (w : World)
theorem dmerge_1 (hR : RB w A n xa) (hT : Sizes w) (hc : n ≤ c) (hcm : c ≤ 9223372036854775807) (h1 : rErr xa ≠ 0) :
    Calls Tryd.prog 22 #[.slice A n c, .slice D m d] w (MergePost w xa xb) := by
  have R1 := dread_all A n c xa w hR hT hc hcm
  obtain ⟨n1, hn1⟩ : ∃ n1, (rLst xa).length = n1 := ⟨_, rfl⟩
  obtain ⟨ev, hev⟩ : ∃ ev, rErr xa = ev := ⟨_, rfl⟩
  rw [hn1, hev] at R1
  have H1 : Hid (mErr xa xb = ev ∧ mBytes xa xb = []) := by rw [← hev]; exact mErr_1 h1
  rw [hev] at h1
  have e1 : (ev != 0) = true := bne_iff_ne.2 h1
  have e2 : (ev == 0) = false := beq_eq_false_iff_ne.2 h1
  have HR1 := Lib.hid R1
  clear R1 hn1 hev hR hT hc hcm h1
  go_enter Tryd.func22, Tryd.ntmps22
  go_wp2_with fail
  refine HR1.out.mono ?_
  clear HR1
  rintro e W1 ⟨A1, c1, rfl, -, hb1⟩
  have HB := Lib.hid hb1
  clear hb1
  go_wp2
  go_ret2
  exact ⟨none, 0, 0, by rw [H1.out.1]; rfl, by rw [H1.out.2]; exact OwnB.nil _ _, HB.out⟩
theorem dmerge_2 (hR : RB w A n xa) (hD : RB w D m xb) (hT : Sizes w) (hc : n ≤ c) (hcm : c ≤ 9223372036854775807) (hd : m ≤ d) (hdm : d ≤ 9223372036854775807) (h1 : rErr xa = 0) (h2 : rErr xb ≠ 0) :
    Calls Tryd.prog 22 #[.slice A n c, .slice D m d] w (MergePost w xa xb) := by
  have R1 := dread_all A n c xa w hR hT hc hcm
  have R2 : ∀ W, Below w.heap.size w W → _ := fun W h => dread_all D m d xb W (hD.below h) (hT.below' h) hd hdm
  obtain ⟨n1, hn1⟩ : ∃ n1, (rLst xa).length = n1 := ⟨_, rfl⟩
  obtain ⟨n2, hn2⟩ : ∃ n2, (rLst xb).length = n2 := ⟨_, rfl⟩
  obtain ⟨ev, hev⟩ : ∃ ev, rErr xb = ev := ⟨_, rfl⟩
  rw [hn1, h1] at R1
  rw [hn2, hev] at R2
  have H1 : Hid (mErr xa xb = ev ∧ mBytes xa xb = []) := by rw [← hev]; exact mErr_2 h1 h2
  rw [hev] at h2
  have e1 : (ev != 0) = true := bne_iff_ne.2 h2
  have e2 : (ev == 0) = false := beq_eq_false_iff_ne.2 h2
  have HR1 := Lib.hid R1
  have HR2 := Lib.hid R2
  clear R1 R2 hn1 hn2 hev hR hD hT hc hcm hd hdm h1 h2
  go_enter Tryd.func22, Tryd.ntmps22
  go_wp2_with fail
  refine HR1.out.mono ?_
  clear HR1
  rintro e W1 ⟨A1, c1, rfl, -, hb1⟩
  have HB := Lib.hid hb1
  clear hb1
  go_wp2_with fail
  refine (HR2.out W1 HB.out).mono ?_
  clear HR2
  rintro e W2 ⟨A2, c2, rfl, -, hb2⟩
  have HB2 := Lib.hid (kp_call HB.out hb2)
  clear hb2
  go_wp2
  go_ret2
  exact ⟨none, 0, 0, by rw [H1.out.1]; rfl, by rw [H1.out.2]; exact OwnB.nil _ _, HB2.out⟩
set_option maxHeartbeats 16000000 in
theorem dmerge_3 (hR : RB w A n xa) (hD : RB w D m xb) (hT : Sizes w) (hc : n ≤ c) (hcm : c ≤ 9223372036854775807) (hd : m ≤ d) (hdm : d ≤ 9223372036854775807) (h1 : rErr xa = 0) (h2 : rErr xb = 0) :
    Calls Tryd.prog 22 #[.slice A n c, .slice D m d] w (MergePost w xa xb) := by
  have R1 := dread_all A n c xa w hR hT hc hcm
  have R2 : ∀ W, Below w.heap.size w W → _ := fun W h => dread_all D m d xb W (hD.below h) (hT.below' h) hd hdm
  obtain ⟨xl, hl1⟩ : ∃ xl, rLst xa = xl := ⟨_, rfl⟩
  obtain ⟨yl, hl2⟩ : ∃ yl, rLst xb = yl := ⟨_, rfl⟩
  have hs1 := rLst_small xa
  have hs2 := rLst_small xb
  have ho1 := rd_ok h1
  have ho2 := rd_ok h2
  have hk1 : (rLst xa).length ≤ 50000 := by have := allB_ge (rLst xa); rw [ho1.2.1] at this; have := ho1.2.2; omega
  have hk2 : (rLst xb).length ≤ 50000 := by have := allB_ge (rLst xb); rw [ho2.2.1] at this; have := ho2.2.2; omega
  have hML : mLst xa xb = merged (rLst xa) (rLst xb) := rfl
  rw [hl1] at R1 hs1 hk1 ho1
  rw [hl2] at R2 hs2 hk2 ho2
  rw [hl1, hl2] at hML
  obtain ⟨n1, hn1⟩ : ∃ n1, xl.length = n1 := ⟨_, rfl⟩
  obtain ⟨n2, hn2⟩ : ∃ n2, yl.length = n2 := ⟨_, rfl⟩
  rw [hn1, h1] at R1
  rw [hn2, h2] at R2
  have HN : Hid (n1 ≤ 50000 ∧ n2 ≤ 50000 ∧ xl.length = n1 ∧ yl.length = n2) := ⟨by omega, by omega, hn1, hn2⟩
  have HS := Lib.hid (And.intro hs1 (And.intro hs2 (And.intro (right_len ho1.1 ho2.1) hML)))
  have HR1 := Lib.hid R1
  have HR2 := Lib.hid R2
  have HR := Lib.hid (And.intro h1 (And.intro h2 hT))
  clear R1 R2 hl1 hl2 hn1 hn2 hR hD hT hc hcm hd hdm h1 h2 hs1 hs2 hk1 hk2 ho1 ho2 hML
  go_enter Tryd.func22, Tryd.ntmps22
  go_wp2_with fail
  refine HR1.out.mono ?_
  clear HR1
  rintro e W1 ⟨A1, c1, rfl, hL1, hb1⟩
  have HB1 := Lib.hid hb1
  have HL1 := Lib.hid hL1
  clear hb1 hL1
  go_wp2_with fail
  refine (HR2.out W1 HB1.out).mono ?_
  clear HR2
  rintro e W2 ⟨A2, c2, rfl, hL2, hb2⟩
  have H2 : Hid (ListsOwn W2 w.heap.size A1 n1 c1 xl ∧ ListsOwn W2 w.heap.size A2 n2 c2 yl ∧ (blk A1 = none ∨ blk A1 ≠ blk A2) ∧ Below w.heap.size w W2) := by
    refine ⟨HL1.out.below hb2 (Nat.le_refl _), hL2.lower HB1.out.size, ?_, kp_call HB1.out hb2⟩
    cases hx : blk A1 with
    | none => exact .inl rfl
    | some g =>
      refine .inr fun e => ?_
      have h3 := (HL1.out.blk hx).2
      have h4 := (hL2.blk e.symm).1
      omega
  clear hb2 hL2 HL1 HB1
  go_wp2
  go_loopw [6, 9] (fun v u wl => ∃ (i : Nat) (A' : Option Addr) (n' c' : Nat), v = .slice A' n' c' ∧ u = .int .i64 (i : Int) ∧ i ≤ n2 ∧ Hid (ListsOwn wl w.heap.size A' n' c' (xl ++ mergeQ (yl.take i) (flatK xl)) ∧ ListsOwn wl w.heap.size A2 n2 c2 yl ∧ (blk A' = none ∨ blk A' ≠ blk A2) ∧ Below w.heap.size w wl)) (fun _ u _ => (n2 - (intOf u).toNat))
  case atStart => exact ⟨0, A1, n1, c1, rfl, rfl, Nat.zero_le _, by rw [List.take_zero]; show ListsOwn _ _ _ _ _ (xl ++ []); rw [List.append_nil]; exact H2.out.1, H2.out.2⟩
  case round =>
    obtain ⟨i, A', n', c', rfl, rfl, hi, hS⟩ := hrel
    have hLn := merge_small (yl.take i) (flatK xl) 100000 fun x hx => HS.out.2.1 x (List.mem_of_mem_take hx)
    have hn' : n' ≤ 100000 := by
      have h1 := hS.1.len
      have h2 := HN.out
      have h3 := hLn.2
      rw [List.length_take] at h3
      rw [List.length_append] at h1
      omega
    have hsm : ∀ x ∈ xl ++ mergeQ (yl.take i) (flatK xl), x.2.length ≤ 100000 := fun x hx => (List.mem_append.1 hx).elim (HS.out.1 x) (hLn.1 x)
    have HSM := Lib.hid (And.intro hsm hn')
    have HSS := Lib.hid hS
    clear hLn hn' hsm hS
    rcases Nat.lt_or_ge i n2 with hlt | hge
    · have l1 : decide ((i : Int) < (n2 : Int)) = true := decide_eq_true (by omega)
      have l2 : decide (i < n2) = true := decide_eq_true hlt
      obtain ⟨lz, hlz, hol, hml⟩ := HSS.out.1
      obtain ⟨ms, hms, hom, hmm⟩ := HSS.out.2.1
      obtain ⟨z, b, off, hg, hA, hbl, hr, zs0, hz0⟩ := (own_lists hom hmm).at_ hlt
      subst hA
      obtain ⟨zs, hze, hzo, hzi⟩ := hmm z (List.mem_of_getElem? hg)
      obtain ⟨za, hza⟩ : ∃ za, z.a = za := ⟨_, rfl⟩
      have hzm : yl[i]? = some z.lst := by rw [← hms, List.getElem?_map, hg]; rfl
      have hzn : z.n ≤ 100000 := by
        rw [← lm_n hz0]
        exact HS.out.2.1 z.lst (List.mem_of_getElem? hzm)
      obtain ⟨S, hSd⟩ : ∃ S, flatK (xl ++ mergeQ (yl.take i) (flatK xl)) = S := ⟨_, rfl⟩
      have KS : Hid (flatK (lz.map LM.lst) = S ∧ flatK (xl ++ mergeQ (yl.take i) (flatK xl)) = S) := ⟨by rw [hlz]; exact hSd, hSd⟩
      have KZ := Lib.hid (And.intro (own_lists hol hml) (And.intro hlz (lim_m (own_lists hol hml) (m := 100000) (by rw [hlz]; exact HSM.out.1))))
      have KI' := Lib.hid (And.intro hze (And.intro hzo (And.intro hzi (own_items hzo hzi))))
      have KG := Lib.hid (And.intro hr (And.intro hzm hzn))
      have hcp := HSS.out.1.cap
      have HCP := Lib.hid hcp
      obtain ⟨wo, hwo⟩ : ∃ wo, wo = wr := ⟨_, rfl⟩
      subst hwo
      have r0 : wo.cell? ⟨b, off + i * 2, none⟩ = some (.int .u8 (z.k.toNat : Int)) := hr 0 _ rfl
      have r1 : wo.cell? ⟨b, off + i * 2 + 1, none⟩ = some (.slice za z.n z.c) := by rw [← hza]; exact hr 1 _ rfl
      have KR := Lib.hid (And.intro r0 r1)
      clear hlz hol hml hms hom hmm hg hr hz0 hze hzo hzi hzm hzn hSd hcp hi hbl
      go_upto_region 12 with fail
      refine wp_nm fun W4 hW4 => ?_
      have H4 : Hid (W4.heap[wo.heap.size]? = some (.cells #[.int .u8 (z.k.toNat : Int), .slice none 0 0] 41) ∧ Below wo.heap.size wo W4) := by
        rw [← hW4]; exact ⟨has_new wo _, kp_alloc (Below.refl _ _) _⟩
      clear hW4 r0 r1
      go_loopw [11] (fun v wl => ∃ (j : Nat) (V : Option Addr) (m' cV : Nat), v = .int .i64 (j : Int) ∧ j ≤ z.n ∧ wl.heap[wo.heap.size]? = some (.cells #[.int .u8 (z.k.toNat : Int), .slice V m' cV] 41) ∧ Hid (∃ zs' : List IM, zs'.map IM.itm = freshQ z.k ((zs.take j).map IM.itm) S ∧ (∀ y ∈ zs', y ∈ zs) ∧ OwnR wl (wo.heap.size + 1) 49 17 V m' cV (zs'.flatMap IM.cells) ∧ Below wo.heap.size wo wl)) (fun v _ => (z.n - (intOf v).toNat))
      case atStart => exact ⟨0, none, 0, 0, rfl, Nat.zero_le _, H4.out.1, [], by rw [List.take_zero]; rfl, (fun y hy => by cases hy), OwnR.nil _ _ _ _, H4.out.2⟩
      case round =>
        obtain ⟨j, V, m', cV, rfl, hj, hkn, zs', hze, hzin, hzo, hbj⟩ := hrel
        have r0 : wr.cell? ⟨b, off + i * 2, none⟩ = some (.int .u8 (z.k.toNat : Int)) := kp_cell hbj KR.out.1
        have r1 : wr.cell? ⟨b, off + i * 2 + 1, none⟩ = some (.slice za z.n z.c) := kp_cell hbj KR.out.2
        have hm' : m' ≤ j := by
          have h1 := hzo.len
          rw [flat_len IM.cells 17 zs' (fun y hy => y.cells_len (KI'.out.2.2.1 y (hzin y hy)).2)] at h1
          have h2 := congrArg List.length hze
          have h3 := fresh_le z.k ((zs.take j).map IM.itm) S
          rw [List.length_map] at h2
          rw [List.length_map, List.length_take] at h3
          omega
        rcases Nat.lt_or_ge j z.n with hlt2 | hge2
        · have l3 : decide ((j : Int) < (z.n : Int)) = true := decide_eq_true (by omega)
          have l4 : decide (j < z.n) = true := decide_eq_true hlt2
          obtain ⟨y, b2, off2, hg2, hA2, hbl2, hr2, hy1⟩ := (KI'.out.2.2.2.below hbj).at_ hlt2
          rw [hza] at hA2
          subst hA2
          obtain ⟨o, dd, a9, n9, c9⟩ := y
          have hz16 : o.length = 16 := hy1.o
          have K2 := Lib.hid (And.intro hr2 (And.intro hz16 (And.intro hg2 (And.intro hy1 (And.intro hze (And.intro hzin (And.intro hzo (And.intro hbj (And.intro hm' hkn)))))))))
          have l5 : IntKind.i64.wrap ((j : Int) + 1) = ((j + 1 : Nat) : Int) := IntWalk.i64_in _ (by have := KG.out.2.2; omega)
          have hzt : Hid ((zs.take (j + 1)).map IM.itm = (zs.take j).map IM.itm ++ [(o, dd)]) := by
            unfold Hid
            rw [List.take_add_one, hg2, List.map_append]; rfl
          clear hr2 hz16 hg2 hy1 hze hzin hzo hbj hm' hkn hbl2 hj
          go_upto_region 15 with (first
            | (with_reducible refine wpList_load_mid rfl _ _ rfl b2 (off2 + j * 17) rfl (IM.cells ⟨o, dd, a9, n9, c9⟩) _ K2.out.1 Tryd.underlying49 rfl (item_info3 ⟨o, dd, a9, n9, c9⟩ K2.out.2.1) ?_)
            | (refine wpList_store_row rfl _ _ _ rfl wr.heap.size (itmC o a9 n9 c9) rfl rfl _ _ (has_new wr _) (item_info2 K2.out.2.1 _ _ _) (by rw [itmC_size K2.out.2.1]; rfl) (itmC_one _ _ _ _) ?_))
          refine wp_nm fun W5 hW5 => ?_
          go_simp
          have hb5 : Below wr.heap.size wr W5 := by rw [← hW5]; exact below_setRow (kp_alloc (Below.refl _ _) _) (Nat.le_refl _) _
          have k5 : W5.heap[wr.heap.size]? = some (.cells (itmC o a9 n9 c9) 49) := by rw [← hW5]; exact setRow_heap _ _ _ _ _ _ (has_new wr _)
          have kn5 := has_below K2.out.2.2.2.2.2.2.2.2.2 hb5
          have hbo5 := kp_call K2.out.2.2.2.2.2.2.2.1 hb5
          have hy5 : ImR W5 ⟨o, dd, a9, n9, c9⟩ := K2.out.2.2.2.1.below hb5
          have hzo5 := K2.out.2.2.2.2.2.2.1.below hb5 (Nat.le_refl _)
          have H5 := Lib.hid (And.intro hb5 (And.intro k5 (And.intro kn5 (And.intro hbo5 (And.intro hy5 hzo5)))))
          have II : Hid ((Tryd.prog.info? 49).map (·.size) = some (itmC o a9 n9 c9).size) := item_info2 K2.out.2.1 _ _ _
          have C1 := Lib.hid (stands_any A' n' c' lz z.k ⟨o, dd, a9, n9, c9⟩ W5 (KZ.out.1.below hbo5) HCP.out.1 HCP.out.2 (by have := HSM.out.2; omega) (fun q hq => Nat.le_trans (KZ.out.2.2 q hq) (by decide)) hy5)
          rw [KS.out.1] at C1
          obtain ⟨v1, hv1⟩ : ∃ v1, decide ((z.k, (⟨o, dd, a9, n9, c9⟩ : IM).itm) ∈ S) = v1 := ⟨_, rfl⟩
          rw [hv1] at C1
          have HV1 := Lib.hid hv1
          obtain ⟨e0, e1⟩ := cells_2 kn5
          clear hW5 hb5 k5 kn5 hbo5 hy5 hzo5 r0 r1 hv1
          go_wp2_with (refine wpList_load_row rfl _ _ rfl wr.heap.size rfl _ _ _ _ H5.out.2.1 Tryd.underlying49 rfl II.out ?_)
          refine C1.out.mono ?_
          clear C1
          rintro e w6 ⟨rfl, hb6⟩
          have k6 := has_below H5.out.2.1 hb6
          have kn6 := has_below H5.out.2.2.1 hb6
          have hbo6 := kp_call H5.out.2.2.2.1 hb6
          have hzo6 := H5.out.2.2.2.2.2.below hb6 (Nat.le_refl _)
          have H6 := Lib.hid (And.intro k6 (And.intro kn6 (And.intro hbo6 (And.intro hzo6 (H5.out.2.2.2.2.1.below hb6)))))
          have SEEN : Hid ((z.k, ((o, dd) : Itm)) ∈ seenQ z.k ((zs.take j).map IM.itm) S → freshQ z.k ((zs.take (j + 1)).map IM.itm) S = freshQ z.k ((zs.take j).map IM.itm) S) := fun h => by
            rw [hzt.out, fresh_snoc, if_pos h]
          clear k6 kn6 hbo6 hzo6 hb6 e0 e1
          obtain ⟨e0, e1⟩ := cells_2 H6.out.2.1
          cases v1 with
          | true =>
            have HF : Hid (freshQ z.k ((zs.take (j + 1)).map IM.itm) S = freshQ z.k ((zs.take j).map IM.itm) S) := SEEN.out ((seen_mem _ _ _ _).2 (.inl (of_decide_eq_true HV1.out)))
            go_wp2
            go_roundw
            case rel => exact ⟨j + 1, V, m', cV, rfl, hlt2, H6.out.2.1, zs', by rw [HF.out]; exact K2.out.2.2.2.2.1, K2.out.2.2.2.2.2.1, H6.out.2.2.2.1, H6.out.2.2.1⟩
            case measure => simp [intOf]; omega
          | false =>
            obtain ⟨f0, f1⟩ := cells_2 (has_alloc H6.out.2.1 (.cells #[.int .u8 (z.k.toNat : Int), .slice V m' cV] 41))
            go_wp2_with (refine wpList_load_rowG rfl _ _ rfl wr.heap.size rfl _ _ _ _ (has_alloc H6.out.1 _) Tryd.underlying49 rfl II.out ?_)
            refine calls_nm fun W7 hW7 => ?_
            have hb7 : Below w6.heap.size w6 W7 := by rw [← hW7]; exact kp_alloc (Below.refl _ _) _
            have k7 : W7.heap[w6.heap.size]? = some (.cells #[.int .u8 (z.k.toNat : Int), .slice V m' cV] 41) := by rw [← hW7]; exact has_new w6 _
            have hcv := H6.out.2.2.2.1.cap
            have ZN : ListsZ W7 (some ⟨w6.heap.size, 0, none⟩) 1 [⟨z.k, zs'.map IM.itm, V, m', cV⟩] := ⟨rfl, one_row k7, fun q hq => by
              rw [List.mem_singleton.1 hq]
              exact ⟨zs', ⟨by
                show zs'.length = m'
                have h1 := H6.out.2.2.2.1.len
                rw [flat_len IM.cells 17 zs' (fun y hy => y.cells_len (KI'.out.2.2.1 y (K2.out.2.2.2.2.2.1 y hy)).2)] at h1
                omega, H6.out.2.2.2.1.reads.below hb7 (Nat.le_refl _), fun y hy => (Ims.read KI'.out.2.2.1 y (K2.out.2.2.2.2.2.1 y hy)).below (kp_call H6.out.2.2.1 hb7)⟩, rfl, hcv.1, by have := hcv.2; unfold maxLen at this; omega⟩⟩
            have C2 := Lib.hid (stands_any (some ⟨w6.heap.size, 0, none⟩) 1 1 [⟨z.k, zs'.map IM.itm, V, m', cV⟩] z.k ⟨o, dd, a9, n9, c9⟩ W7 ZN (by decide) (by decide) (by decide) (fun q hq => by rw [List.mem_singleton.1 hq]; show m' ≤ _; have := K2.out.2.2.2.2.2.2.2.2.1; have := KG.out.2.2; omega) (H6.out.2.2.2.2.below hb7))
            rw [show flatK (List.map LM.lst [⟨z.k, zs'.map IM.itm, V, m', cV⟩]) = flatK [(z.k, freshQ z.k ((zs.take j).map IM.itm) S)] by rw [← K2.out.2.2.2.2.1]; rfl] at C2
            obtain ⟨v2, hv2⟩ : ∃ v2, decide ((z.k, (⟨o, dd, a9, n9, c9⟩ : IM).itm) ∈ flatK [(z.k, freshQ z.k ((zs.take j).map IM.itm) S)]) = v2 := ⟨_, rfl⟩
            rw [hv2] at C2
            have HV2 := Lib.hid hv2
            have HB7 := Lib.hid hb7
            clear hW7 hb7 k7 hcv ZN hv2 e0 e1 f0 f1
            refine C2.out.mono ?_
            clear C2
            rintro e w8 ⟨rfl, hb8⟩
            have hb68 := kp_call HB7.out hb8
            have k8 := has_below H6.out.1 hb68
            have kn8 := has_below H6.out.2.1 hb68
            have H8 := Lib.hid (And.intro k8 (And.intro kn8 (And.intro (kp_call H6.out.2.2.1 hb68) (H6.out.2.2.2.1.below hb68 (Nat.le_refl _)))))
            clear hb8 hb68 k8 kn8
            cases v2 with
            | true =>
              have HF : Hid (freshQ z.k ((zs.take (j + 1)).map IM.itm) S = freshQ z.k ((zs.take j).map IM.itm) S) := SEEN.out ((stand_in _ _ _ _).2 (.inr (of_decide_eq_true HV2.out)))
              go_wp2
              go_roundw
              case rel => exact ⟨j + 1, V, m', cV, rfl, hlt2, H8.out.2.1, zs', by rw [HF.out]; exact K2.out.2.2.2.2.1, K2.out.2.2.2.2.2.1, H8.out.2.2.2, H8.out.2.2.1⟩
              case measure => simp [intOf]; omega
            | false =>
              have HF : Hid (freshQ z.k ((zs.take (j + 1)).map IM.itm) S = freshQ z.k ((zs.take j).map IM.itm) S ++ [(o, dd)]) := by
                have hno : (z.k, ((o, dd) : Itm)) ∉ seenQ z.k ((zs.take j).map IM.itm) S := fun h => ((stand_in _ _ _ _).1 h).elim (of_decide_eq_false HV1.out) (of_decide_eq_false HV2.out)
                unfold Hid
                rw [hzt.out, fresh_snoc, if_neg hno]
              obtain ⟨p0, p1, p2, p3, p4, p5, p6, p7, p8, p9, p10, p11, p12, p13, p14, p15, ho16⟩ := list16 K2.out.2.1
              have HO : Hid (o = [p0, p1, p2, p3, p4, p5, p6, p7, p8, p9, p10, p11, p12, p13, p14, p15]) := ho16
              have it8 : w8.heap[wr.heap.size]? = some (.cells #[.int .u8 (p0.toNat : Int), .int .u8 (p1.toNat : Int), .int .u8 (p2.toNat : Int), .int .u8 (p3.toNat : Int), .int .u8 (p4.toNat : Int), .int .u8 (p5.toNat : Int), .int .u8 (p6.toNat : Int), .int .u8 (p7.toNat : Int), .int .u8 (p8.toNat : Int), .int .u8 (p9.toNat : Int), .int .u8 (p10.toNat : Int), .int .u8 (p11.toNat : Int), .int .u8 (p12.toNat : Int), .int .u8 (p13.toNat : Int), .int .u8 (p14.toNat : Int), .int .u8 (p15.toNat : Int), .slice a9 n9 c9] 49) := by
                have h1 := H8.out.1
                rw [ho16] at h1
                exact h1
              have ho9 := H8.out.2.2.2.alloc (.cells #[.int .u8 (p0.toNat : Int), .int .u8 (p1.toNat : Int), .int .u8 (p2.toNat : Int), .int .u8 (p3.toNat : Int), .int .u8 (p4.toNat : Int), .int .u8 (p5.toNat : Int), .int .u8 (p6.toNat : Int), .int .u8 (p7.toNat : Int), .int .u8 (p8.toNat : Int), .int .u8 (p9.toNat : Int), .int .u8 (p10.toNat : Int), .int .u8 (p11.toNat : Int), .int .u8 (p12.toNat : Int), .int .u8 (p13.toNat : Int), .int .u8 (p14.toNat : Int), .int .u8 (p15.toNat : Int), .slice a9 n9 c9] 49)
              have K8 := Lib.hid (And.intro it8 ho9)
              have HS8 := Lib.hid (show wo.heap.size + 1 ≤ w8.heap.size from Nat.succ_le_of_lt (block_lt H8.out.2.1))
              have hm' := K2.out.2.2.2.2.2.2.2.2.1
              have hzn := KG.out.2.2
              have hmax : m' + 1 ≤ maxLen := by unfold maxLen; omega
              have hby : (m' + 1) * 40 ≤ 140737488355328 := by omega
              have H1 : Hid (∀ u ∈ (#[.int .u8 (p0.toNat : Int), .int .u8 (p1.toNat : Int), .int .u8 (p2.toNat : Int), .int .u8 (p3.toNat : Int), .int .u8 (p4.toNat : Int), .int .u8 (p5.toNat : Int), .int .u8 (p6.toNat : Int), .int .u8 (p7.toNat : Int), .int .u8 (p8.toNat : Int), .int .u8 (p9.toNat : Int), .int .u8 (p10.toNat : Int), .int .u8 (p11.toNat : Int), .int .u8 (p12.toNat : Int), .int .u8 (p13.toNat : Int), .int .u8 (p14.toNat : Int), .int .u8 (p15.toNat : Int), .slice a9 n9 c9] : Array Value).toList, u.oneCell' = true) := List.all_eq_true.1 rfl
              obtain ⟨e0, e1⟩ := cells_2 H8.out.2.1
              clear it8 ho9 ho16 hm' hzn
              go_wp2_with (first
                | (refine wpList_load_row rfl _ _ rfl wr.heap.size rfl _ _ _ _ K8.out.1 Tryd.underlying49 rfl item_info ?_)
                | (at_builtin; refine wpList_appL item_row _ _ rfl rfl rfl (wo.heap.size + 1) V m' cV _ rfl K8.out.2 w8.heap.size 1 1 #[.int .u8 (p0.toNat : Int), .int .u8 (p1.toNat : Int), .int .u8 (p2.toNat : Int), .int .u8 (p3.toNat : Int), .int .u8 (p4.toNat : Int), .int .u8 (p5.toNat : Int), .int .u8 (p6.toNat : Int), .int .u8 (p7.toNat : Int), .int .u8 (p8.toNat : Int), .int .u8 (p9.toNat : Int), .int .u8 (p10.toNat : Int), .int .u8 (p11.toNat : Int), .int .u8 (p12.toNat : Int), .int .u8 (p13.toNat : Int), .int .u8 (p14.toNat : Int), .int .u8 (p15.toNat : Int), .slice a9 n9 c9] _ rfl (has_new w8 _) rfl H1.out hmax hby (by have := HS8.out; simp; omega) ?_))
              intro V' c7 w9 ho9 hg9
              have hb9 : Below wo.heap.size wo w9 := (kp_alloc H8.out.2.2.1 _).grown hg9 (by have := HS8.out; simp; omega) (fun g hg => Nat.le_trans (Nat.le_succ _) (K8.out.2.blk_lt hg).1)
              have kn9 : w9.heap[wo.heap.size]? = some (.cells #[.int .u8 (z.k.toNat : Int), .slice V m' cV] 41) := (hg9.block _ (by have := HS8.out; simp; omega) (fun e => by have := (K8.out.2.blk_lt e.symm).1; omega)).trans (has_alloc H8.out.2.1 _)
              have K9 := Lib.hid (And.intro ho9 (And.intro hb9 kn9))
              clear ho9 hg9 hb9 kn9 e0 e1 hmax hby
              obtain ⟨e0, e1⟩ := cells_2 K9.out.2.2
              obtain ⟨y0, y1⟩ := free_2 K9.out.2.2
              go_wp2
              go_roundw
              case rel =>
                refine ⟨j + 1, V', m' + 1, c7, rfl, hlt2, (heap_set_at _ _ 1 _ _ _ _ K9.out.2.2).trans rfl, zs' ++ [⟨[p0, p1, p2, p3, p4, p5, p6, p7, p8, p9, p10, p11, p12, p13, p14, p15], dd, a9, n9, c9⟩], ?_, ?_, ?_, K9.out.2.1.setCell (Nat.le_refl _) _⟩
                · rw [HF.out, List.map_append, K2.out.2.2.2.2.1, HO.out]; rfl
                · intro y hy
                  rcases List.mem_append.1 hy with hy | hy
                  · exact K2.out.2.2.2.2.2.1 y hy
                  · rw [List.mem_singleton.1 hy]
                    have := List.mem_of_getElem? K2.out.2.2.1
                    rw [HO.out] at this
                    exact this
                · rw [List.flatMap_append]
                  exact OwnR.far9 K9.out.1 (grown_one _ _ _ _) (Nat.lt_succ_self _)
              case measure => simp [intOf]; omega
        · have l3 : decide ((j : Int) < (z.n : Int)) = false := decide_eq_false (by omega)
          have l4 : decide (j < z.n) = false := decide_eq_false (by omega)
          have ht : (zs.take j).map IM.itm = z.is := by
            rw [List.take_of_length_le (by have := KI'.out.2.2.2.len; omega), KI'.out.1]
          rw [ht] at hze
          have HSZ : Hid (xl ++ mergeQ (yl.take (i + 1)) (flatK xl) = (xl ++ mergeQ (yl.take i) (flatK xl)) ++ (if freshQ z.k z.is S = [] then [] else [(z.k, freshQ z.k z.is S)])) := by
            have := merge_succ xl yl i z.lst KG.out.2.1
            rw [KS.out.2] at this
            exact this
          have hzl : zs'.length = m' := by
            have h1 := hzo.len
            rw [flat_len IM.cells 17 zs' (fun y hy => y.cells_len (KI'.out.2.2.1 y (hzin y hy)).2)] at h1
            omega
          have hl9 : (freshQ z.k z.is S).length = m' := by rw [← hze, List.length_map, hzl]
          have I9 : ItemsOwn wr w.heap.size V m' cV (freshQ z.k z.is S) := ⟨zs', hze, hzo.lower (by have := HSS.out.2.2.2.size; omega), fun y hy => (Ims.below KI'.out.2.2.1 hbj (Nat.le_refl _)) y (hzin y hy)⟩
          have L9 := HSS.out.1.below hbj (Nat.le_refl _)
          have M9 := HSS.out.2.1.below hbj (Nat.le_refl _)
          have B9 := HSS.out.2.2.2.trans (hbj.mono HSS.out.2.2.2.size)
          have K9 := Lib.hid (And.intro I9 (And.intro L9 (And.intro M9 (And.intro B9 (And.intro hkn hl9)))))
          obtain ⟨e0, e1⟩ := cells_2 hkn
          have l5 : IntKind.i64.wrap ((i : Int) + 1) = ((i + 1 : Nat) : Int) := IntWalk.i64_in _ (by have := HN.out.2.1; omega)
          clear hze hzin hzo hbj hm' hkn ht hzl hl9 I9 L9 M9 B9 hge2 hj
          rcases Nat.eq_zero_or_pos m' with h0 | h0
          · have q1 : decide ((m' : Int) > (0 : Int)) = false := decide_eq_false (by omega)
            have q2 : decide ((0 : Int) < (m' : Int)) = false := decide_eq_false (by omega)
            have q3 : decide (0 < m') = false := decide_eq_false (by omega)
            have HE : Hid (freshQ z.k z.is S = []) := List.eq_nil_of_length_eq_zero (by have := K9.out.2.2.2.2.2; omega)
            clear h0
            go_wp2
            go_roundw
            case rel => exact ⟨i + 1, A', n', c', rfl, rfl, hlt, by rw [HSZ.out, if_pos HE.out, List.append_nil]; exact K9.out.2.1, K9.out.2.2.1, HSS.out.2.2.1, K9.out.2.2.2.1⟩
            case measure => simp [intOf]; omega
          · have q1 : decide ((m' : Int) > (0 : Int)) = true := decide_eq_true (by omega)
            have q2 : decide ((0 : Int) < (m' : Int)) = true := decide_eq_true (by omega)
            have q3 : decide (0 < m') = true := decide_eq_true (by omega)
            have HE : Hid (freshQ z.k z.is S ≠ []) := fun e => by
              have h1 := K9.out.2.2.2.2.2
              rw [e] at h1
              simp at h1
              omega
            obtain ⟨lz, hlz, hol, hml⟩ := K9.out.2.1
            have hO9 := Lib.hid (hol.alloc (.cells #[.int .u8 (z.k.toNat : Int), .slice V m' cV] 41))
            have HM9 := Lib.hid (And.intro hlz (And.intro hml hol))
            have HB9 := Lib.hid K9.out.2.2.2.1.size
            have hmax : n' + 1 ≤ maxLen := by have := HSM.out.2; unfold maxLen; omega
            have hby : (n' + 1) * 32 ≤ 140737488355328 := by have := HSM.out.2; omega
            have H1 : Hid (∀ u ∈ (#[.int .u8 (z.k.toNat : Int), .slice V m' cV] : Array Value).toList, u.oneCell' = true) := List.all_eq_true.1 rfl
            clear h0 hlz hol hml
            go_wp2_with (at_builtin; refine wpList_appLt list_row _ _ rfl rfl rfl w.heap.size A' n' c' _ rfl hO9.out wr.heap.size 1 1 #[.int .u8 (z.k.toNat : Int), .slice V m' cV] _ rfl (has_new wr _) rfl H1.out hmax hby (by have := HB9.out; simp; omega) ?_)
            intro A7 c7 w7 ho7 hg7 hat7
            have K7 : Hid (ListsOwn w7 w.heap.size A7 (n' + 1) c7 (xl ++ mergeQ (yl.take (i + 1)) (flatK xl)) ∧ ListsOwn w7 w.heap.size (some ⟨b, off, none⟩) n2 c2 yl ∧ (blk A7 = none ∨ blk A7 ≠ blk (some ⟨b, off, none⟩)) ∧ Below w.heap.size w w7) := by
              have hba : Below wr.heap.size wr (wr.alloc (.cells #[.int .u8 (z.k.toNat : Int), .slice V m' cV] 41)) := kp_alloc (Below.refl _ _) _
              refine ⟨⟨lz ++ [⟨z.k, freshQ z.k z.is S, V, m', cV⟩], ?_, ?_, ?_⟩, ?_, ?_, ?_⟩
              · rw [HSZ.out, if_neg HE.out, List.map_append, HM9.out.1]; rfl
              · rw [List.flatMap_append]; exact ho7
              · exact ((HM9.out.2.1.below hba (Nat.le_refl _)).kept hO9.out (by decide) (by decide) hg7).snoc _ ((K9.out.1.below hba (Nat.le_refl _)).kept hO9.out (by decide) (by decide) hg7)
              · obtain ⟨ms, hms, hom, hmm⟩ := K9.out.2.2.1.below hba (Nat.le_refl _)
                refine ⟨ms, hms, hom.kept hg7 ?_, hmm.kept hO9.out (by decide) (by decide) hg7⟩
                rcases HSS.out.2.2.1 with h | h
                · cases hx : blk (some (⟨b, off, none⟩ : Addr)) with
                  | none => exact .inl rfl
                  | some g => exact .inr (by rw [h]; exact fun e => by cases e)
                · exact .inr h.symm
              · rcases hat7 with h | h
                · rw [h]; exact HSS.out.2.2.1
                · rw [h]
                  refine .inr fun e => ?_
                  have h2 := (K9.out.2.2.1.blk e.symm).2
                  have h3 := hba.size
                  omega
              · exact (kp_alloc K9.out.2.2.2.1 _).grown hg7 (by have := HB9.out; simp; omega) (fun g hg => (hO9.out.blk_lt hg).1)
            clear ho7 hg7 hat7 hmax hby e0 e1
            go_wp2
            go_roundw
            case rel => exact ⟨i + 1, A7, n' + 1, c7, rfl, rfl, hlt, K7⟩
            case measure => simp [intOf]; omega
    · have l1 : decide ((i : Int) < (n2 : Int)) = false := decide_eq_false (by omega)
      have l2 : decide (i < n2) = false := decide_eq_false (by omega)
      have ht : yl.take i = yl := List.take_of_length_le (by have := HN.out.2.2.2; omega)
      obtain ⟨lz, hlz, hZ⟩ := HSS.out.1.z
      have hLm := lim_m hZ (m := 100000) (by rw [hlz]; exact HSM.out.1)
      have DW := dwrite_any A' n' c' lz wr hZ HSS.out.1.cap.1 HSS.out.1.cap.2 HSM.out.2 (fun q hq => Nat.le_trans (hLm q hq) (by decide)) (HR.out.2.2.below' HSS.out.2.2.2)
      rw [hlz, ht, show xl ++ mergeQ yl (flatK xl) = merged xl yl from rfl, ← HS.out.2.2.2] at DW
      have HDW := Lib.hid DW
      have HRT : Hid ((mLst xa xb).all rightL = true) := by unfold Hid; rw [HS.out.2.2.2]; exact HS.out.2.2.1
      clear ht hlz hZ hLm DW hge hi
      go_wp2_with fail
      refine HDW.out.mono ?_
      clear HDW
      rintro e w9 ⟨hw9, hb9⟩
      have HB9 := Lib.hid (And.intro (kp_call HSS.out.2.2.2 hb9) HSS.out.2.2.2.size)
      rw [if_pos HRT.out] at hw9
      clear hb9
      by_cases hbig : 65536 < (allB (mLst xa xb)).length
      · rw [if_pos hbig] at hw9
        subst hw9
        have HZ : Hid (mErr xa xb = 10 ∧ mBytes xa xb = []) := mErr_3 HR.out.1 HR.out.2.1 hbig
        clear hbig
        go_wp2
        go_ret2
        exact ⟨none, 0, 0, by rw [HZ.out.1]; rfl, by rw [HZ.out.2]; exact OwnB.nil _ _, HB9.out.1⟩
      · rw [if_neg hbig] at hw9
        obtain ⟨A9, n9, c9, rfl, ho9⟩ := hw9
        have HZ : Hid (mErr xa xb = 0 ∧ mBytes xa xb = allB (mLst xa xb)) := mErr_4 HR.out.1 HR.out.2.1 hbig
        have HO9 := Lib.hid ho9
        clear hbig ho9
        go_wp2
        go_ret2
        exact ⟨A9, n9, c9, by rw [HZ.out.1]; rfl, by rw [HZ.out.2]; exact HO9.out.lower HB9.out.2, HB9.out.1⟩
theorem dmerge_any (hR : RB w A n xa) (hD : RB w D m xb) (hT : Sizes w) (hc : n ≤ c) (hcm : c ≤ 9223372036854775807) (hd : m ≤ d) (hdm : d ≤ 9223372036854775807) :
    Calls Tryd.prog 22 #[.slice A n c, .slice D m d] w (MergePost w xa xb) := by
  by_cases h1 : rErr xa = 0
  · by_cases h2 : rErr xb = 0
    · exact dmerge_3 A n c xa D m d xb w hR hD hT hc hcm hd hdm h1 h2
    · exact dmerge_2 A n c xa D m d xb w hR hD hT hc hcm hd hdm h1 h2
  · exact dmerge_1 A n c xa D m d xb w hR hT hc hcm h1
end
end Go.Proofs.YtfampefflkkckaaDoor
