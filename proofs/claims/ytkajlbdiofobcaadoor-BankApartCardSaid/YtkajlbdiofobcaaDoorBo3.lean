/-
  bank: Add with the power armed, as plain data; appending rows that may be nil.
-/
import Derived.Test.YtkajlbdiofobcaaDoorBo2
import Derived.Deep.RegionHeld
namespace Go.Proofs.YtkajlbdiofobcaaDoor
open Go.RowKit Go
set_option linter.unusedVariables false
set_option linter.unusedSimpArgs false
set_option maxRecDepth 100000
/-- What Add comes to on a bank that was laid, with the power armed. -/
theorem add_armed (F C : Nat) (S : FS) (A h B : List UInt8) (rs : List RL) (k : Nat) (key val : List UInt8) (T : FS) (r : Int) (h2 : 0 < S.left) (h3 : S.bs = A ++ bankL h rs k ++ B) (h4 : A.length = F * S.s) (h5 : (bankL h rs k).length = C * S.s) (hh : h.length = 16) (hr : ∀ r ∈ rs, r.ok) (ha : AddIs S F C key val T r) :
    (T = S ∧ (r = 1 ∨ r = 5)) ∨
    ((1 ≤ key.length ∧ key.length ≤ 255 ∧ val.length ≤ 65536) ∧ r = 0 ∧ T = { S with left := S.left - (13 + key.length + val.length), wr := S.wr + (13 + key.length + val.length), bs := A ++ bankL h (rs ++ [⟨key, val, true⟩]) (k - (12 + key.length + val.length)) ++ B } ∧ 12 + key.length + val.length ≤ k) ∨
    (r = 6 ∧ ∃ rest, rest.length = k ∧ recQ rest = none ∧ T = { S with off := true, left := 0, wr := S.wr + (S.left - 1), bs := A ++ (h ++ layAll rs ++ rest) ++ B }) := by
  by_cases hn : 1 ≤ key.length ∧ key.length ≤ 255 ∧ val.length ≤ 65536
  · have hb := bank_of h3 h4 h5
    unfold AddIs at ha
    rw [if_pos hn, hb] at ha
    obtain ⟨l, q, hs, hif⟩ := ha
    obtain ⟨_, rfl⟩ := scan_one hs (scan_bankL h rs k hh hr)
    rw [whole_laid h rs k hh, if_neg (by decide)] at hif
    rcases Nat.lt_or_ge k (12 + key.length + val.length) with hk | hk
    · rw [if_pos (by rw [← h5, bankL_len, hh]; omega)] at hif
      exact .inl ⟨hif.1, .inr hif.2⟩
    · rw [if_neg (by rw [← h5, bankL_len, hh]; omega)] at hif
      rw [← h4] at hif
      rcases addQ_laid A h B rs k key val S h3 hh hk with ⟨_, e1, e2⟩ | ⟨_, _, e1, rest, e2, e3, e4⟩
      · right; left
        exact ⟨hn, hif.2.trans e1, hif.1.trans e2, hk⟩
      · right; right
        exact ⟨hif.2.trans e1, rest, e2, e3, hif.1.trans e4⟩
  · left
    unfold AddIs at ha
    rw [if_neg hn] at ha
    exact ⟨ha.1, .inl ha.2⟩
section
variable {w : World} {ops : Array Oper} {rest : List Oper} {o : Oper} {a : Act} {Q : Exit → Act → World → Prop}
/-- 'append(.., x...)' of a row that is read, nil too. -/
theorem wpList_appV {s e k bytes : Nat} {z : Value} (T : RowT s e k bytes z) (sOp xOp : Operand) (ho : o.op = .call { callee := .builtin .append, args := #[sOp, xOp], argTypes := #[s, s] }) (hgd : o.guard = none) (hty : o.type = s)
    (base : Nat) (V : Option Addr) (m c0 : Nat) (vs : List Value) (hs : a.eval sOp = .slice V m c0) (hown : OwnR w base e k V m c0 vs)
    (A : Option Addr) (nn c : Nat) (news : List Value) (hx : a.eval xOp = .slice A nn c) (hl : news.length = nn * k) (hnews : ReadR w A news) (h1 : ∀ u ∈ news, u.oneCell' = true)
    (hlim : m + nn ≤ maxLen) (hbytes : (m + nn) * bytes ≤ 140737488355328) (hbase : base ≤ w.heap.size)
    (h : ∀ V' c' w', OwnR w' base e k V' (m + nn) c' (vs ++ news) → w.grownBy w' (blk V) → wpList Tryd.prog ops Q rest (a.put o.dst (.slice V' (m + nn) c')) w') : wpList Tryd.prog ops Q (o :: rest) a w := by
  cases A with
  | some ad =>
    refine wpList_appR T sOp xOp ho hgd hty base V m c0 vs hs hown ad nn c news hx hl ?_ h1 hlim hbytes hbase h
    intro j u hu
    obtain ⟨b, off, e1, hb, hc⟩ := hnews.at_ hu
    injection e1 with e1
    subst e1
    have : (⟨b, off, none⟩ : Addr).add j = ⟨b, off + j, none⟩ := by unfold Addr.add; split <;> simp_all
    rw [this]
    exact hc
  | none =>
    have hn0 : news = [] := by
      rcases news with _ | ⟨u, us⟩
      · rfl
      · obtain ⟨b, off, e1, _⟩ := hnews (by simp)
        cases e1
    subst hn0
    obtain rfl : nn = 0 := by
      have hp := T.pos
      rcases Nat.eq_zero_or_pos nn with h1 | h1
      · exact h1
      · have : 0 < nn * k := Nat.mul_pos h1 hp
        rw [← hl] at this
        simp at this
    refine wpList_plain hgd fun K hK => ?_
    obtain ⟨i, hi, hz0, hz1, hz2⟩ := info_parts T.info
    have hrun : (Builtin.append_ #[s, s] s #[.slice V m c0, .slice none 0 c]).run Tryd.prog w = .ok (.slice V m c0) w := by
      rcases hown.2 with ⟨hv, rfl⟩ | ⟨g, cap, cur, hv, _, _, hnc, _⟩
      · injection hv with h1 h2 h3
        subst h1; subst h3
        simp [Builtin.append_, run_underlying T.und, sizeOf, typeInfo, hi, Builtin.lenOf, Builtin.firstCells]
      · injection hv with h1 h2 h3
        subst h1; subst h3
        simp [Builtin.append_, run_underlying T.und, sizeOf, typeInfo, hi, Builtin.lenOf, Builtin.firstCells, hnc, storeCells]
    unfold Oper.wp execOp
    simp only [ho, resolve, invoke, builtin, Sem.run_bind, Sem.run_pure, Result.andThen_ok, List.map_toArray, List.map_cons, List.map_nil, hs, hx, hty, hrun]
    refine hK _ _ (h V c0 w ?_ (World.grownBy.refl w _))
    show OwnR w base e k V (m + 0) c0 (vs ++ [])
    rw [List.append_nil]
    exact hown
end
theorem dcells_one : ∀ (ds : List DV), ∀ u ∈ ds.flatMap DV.cells, u.oneCell' = true := fun ds u hu => by
  obtain ⟨x, _, hx⟩ := List.mem_flatMap.1 hu
  simp [DV.cells] at hx
  rcases hx with rfl | rfl | rfl <;> rfl
end Go.Proofs.YtkajlbdiofobcaaDoor
namespace Go.Proofs.YtkajlbdiofobcaaDoor
open Go.RowKit Go
set_option linter.unusedVariables false
set_option linter.unusedSimpArgs false
set_option maxRecDepth 100000
/-- What a bank's bytes say of its head: the generation, and whether it is ready. -/
def headQ (X : List UInt8) : Nat × Bool :=
  if headG (leN (cut X 4 4)) = X.take 12 then (leN (cut X 4 4), decide ((X.getD 12 0).toNat = 254)) else (0, false)
section
variable {base b g a c F C : Nat} {S : FS} {w : World}
set_option maxHeartbeats 8000000 in
theorem head_on (ht : Tabs w) (hK : BK w base b g a c S F C) (hS : S.off = false) :
    Calls Tryd.prog 26 #[.pointer (some ⟨b, 0, none⟩)] w fun e w' => e = .returned (.tuple #[.int .u32 ((headQ (S.bank F C)).1 : Int), .bool (headQ (S.bank F C)).2, .int .i64 0]) ∧ Below w.heap.size w w' := by
  have hM := bank_len hK
  have h64 := hK.cs
  have hin := hK.in_
  have hbig := hK.fl.big
  have HT := Lib.hid ht
  obtain ⟨X, hX⟩ : ∃ X, S.bank F C = X := ⟨_, rfl⟩
  obtain ⟨L, hL⟩ : ∃ L, X.take 16 = L := ⟨_, rfl⟩
  have hXL : 64 ≤ X.length := by rw [← hX]; omega
  have hLl : L.length = 16 := by rw [← hL, List.length_take]; omega
  have hcut : ∀ o k, o + k ≤ 16 → cut L o k = cut X o k := fun o k hk => by rw [← hL, cut_take _ _ _ _ hk]
  have ST := Lib.hid (fun W (hb : Below w.heap.size w W) => start_any (hK.below hb))
  have RD : Hid (∀ W, Below w.heap.size w W → Calls Tryd.prog 44 #[.pointer (some ⟨g, 0, none⟩), .int .i64 ((F * S.s : Nat) : Int), .int .i64 16] W fun e w' => ∃ A c', e = .returned (.tuple #[.slice A 16 c', .int .i64 0]) ∧ OwnB w' W.heap.size A 16 c' L ∧ Below W.heap.size W w') := fun W hb =>
    (fread_any (hK.fl.below hb) hS (F * S.s) 16 (by omega)).mono fun e w' ⟨A, c', h1, h2, h3⟩ => ⟨A, c', h1, by
      have h9 := bank_cut S F C 0 16 (by omega)
      rw [Nat.add_zero, hX] at h9
      rw [h9] at h2
      have : cut X 0 16 = L := by rw [← hL]; unfold cut; rw [List.drop_zero]
      rwa [this] at h2, h3⟩
  obtain ⟨gg, hgg⟩ : ∃ gg, leN (cut X 4 4) = gg := ⟨_, rfl⟩
  have hg4 : gg < 4294967296 := by rw [← hgg]; have := leN_lt (cut X 4 4); rw [cut_len _ _ _ (by omega)] at this; simpa using this
  have GG : Hid (∀ W A c1, Below w.heap.size w W → RB W A 16 L → Calls Tryd.prog 45 #[.slice A 16 c1, .int .i64 4, .int .i64 4] W fun e w' => e = .returned (.tuple #[.int .u64 (gg : Int), .int .i64 0]) ∧ W = w') := fun W A c1 hb hR => by
    have := get_ok A 16 c1 L 4 4 W hR (HT.out.below hb).oct (by omega) (by decide) (by omega)
    rw [hcut 4 4 (by omega), hgg] at this
    exact this
  have HO := Lib.hid (fun W (hb : Below w.heap.size w W) => headOf_any gg hg4 W (HT.out.below hb))
  have eu : IntKind.u32.wrap (gg : Int) = (gg : Int) := by rw [IntKind.wrap_u32]; omega
  have hq12 : L[12]? = some (X.getD 12 0) := by
    rw [← hL, List.getElem?_take, if_pos (by omega), List.getD_eq_getElem?_getD, List.getElem?_eq_getElem (by omega)]; rfl
  have ht12 : L.take 12 = X.take 12 := by rw [← hL, List.take_take]; rfl
  have HQ : Hid (headQ X = if headG gg = L.take 12 then (gg, decide ((X.getD 12 0).toNat = 254)) else (0, false)) := by
    unfold Hid headQ; rw [hgg, ht12]
  obtain ⟨z, hz⟩ : ∃ z, X.getD 12 0 = z := ⟨_, rfl⟩
  rw [hz] at hq12 HQ
  rw [hX]
  generalize F * S.s = N0 at *
  obtain ⟨k0, k1, k2⟩ := cells_3 hK.bk
  have KEEP : Hid (∀ W, Below w.heap.size w W → W.cell? ⟨b, 0, none⟩ = some (.pointer (some ⟨g, 0, none⟩)) ∧ Below w.heap.size w W) := fun W hb => ⟨kp_cell hb k0, hb⟩
  have B0 := Lib.hid (Below.refl w.heap.size w)
  have HLL := Lib.hid hLl
  have HQ12 := Lib.hid hq12
  clear hM h64 hin hbig hX hL hXL hLl hcut hgg hg4 ht hK hS k1 k2 hz ht12 hq12
  go_enter Tryd.func26, Tryd.ntmps26
  go_wp2_with fail
  go_region_held3 (fun W => W.cell? ⟨b, 0, none⟩ = some (.pointer (some ⟨g, 0, none⟩)) ∧ Below w.heap.size w W)
    ((apply KEEP.out; repeat (with_reducible (first | assumption | exact B0.out | refine kp_drew ?_ | refine kp_call ?_ (by assumption)))))
    (first
      | (go_at_call 39; (with_reducible refine (ST.out _ (by (go_split_ands; assumption))).mono ?_); (rintro e X1 ⟨rfl, hb2⟩; have H2 : Hid (Below w.heap.size w X1) := (by (first | exact hb2 | exact (kp_drew (Below.refl _ _)).trans hb2))))
      | (go_at_call 44; (with_reducible refine (RD.out _ (by (go_split_ands; assumption))).mono ?_); (rintro e X2 ⟨A2, c2, rfl, ho2, hb3⟩; have H3 : Hid (Below w.heap.size w X2) := (by (first | exact kp_call H2.out hb3 | exact kp_call (kp_drew H2.out) hb3)); have HO2 : Hid (OwnB X2 w.heap.size A2 16 c2 L) := (by (first | exact ho2.lower H2.out.size)))))
  all_goals
    obtain ⟨G2, rfl, hg1, hg2⟩ := HO2.out.shape (by have := HO2.out.cap.1; omega)
    clear hb2 hb3 H2
    go_wp2_with fail
    refine (GG.out _ _ _ H3.out HO2.out.rb).mono ?_
    rintro e v ⟨rfl, hv⟩
    subst v
    have RBL : Hid (∀ W, Below X2.heap.size X2 W → RB W (some ⟨G2, 0, none⟩) 12 (L.take 12)) := fun W hb => rb_take (HO2.out.rb.below hb) (by omega)
    have hc12 : Hid (∀ W, Below X2.heap.size X2 W → W.cell? ⟨G2, 12, none⟩ = some (.int .u8 (z.toNat : Int))) := fun W hb => kp_cell hb (HO2.out.cellAt 12 z HQ12.out)
    have i12 : (12 : Int) ≤ (c2 : Int) := by have := HO2.out.cap.1; omega
    have i12' : 12 ≤ c2 := by have := HO2.out.cap.1; omega
    have B2 := Lib.hid (Below.refl X2.heap.size X2)
    have HH3 := H3
    have CVL : Hid (∀ W, Below X2.heap.size X2 W → (convert 22 9 (.slice (some ⟨G2, 0, none⟩) 12 c2)).run Tryd.prog W = .ok (.string (strOf (L.take 12))) W) := fun W hb => by
      have h1 := RBL.out W hb
      have h9 := run_strOf W W.heap.size (some ⟨G2, 0, none⟩) (L.take 12) c2 h1.2
      rw [h1.1] at h9
      exact h9
    have CVH : Hid (∀ W A c4, RB W A 12 (headG gg) → (convert 22 9 (.slice A 12 c4)).run Tryd.prog W = .ok (.string (strOf (headG gg))) W) := fun W A c4 h1 => by
      have h9 := run_strOf W W.heap.size A (headG gg) c4 h1.2
      rw [h1.1] at h9
      exact h9
    clear H3 HO2
    by_cases he : headG gg = L.take 12
    · have HQ1 := HQ.out
      rw [if_pos he] at HQ1
      rw [← he] at CVL
      obtain ⟨sx, hsx⟩ : ∃ sx, strOf (headG gg) = sx := ⟨_, rfl⟩
      rw [hsx] at CVL CVH
      clear hsx he
      have cv0 := CVL.out X2 (Below.refl _ _)
      have cv1 := CVL.out X2.drew (kp_drew (Below.refl _ _))
      go_wp2_with fail
      go_region_held (fun W => Below X2.heap.size X2 W) (repeat (with_reducible (first | assumption | exact B2.out | refine kp_drew ?_ | refine kp_call ?_ (by assumption))))
        (first
          | (go_at_call 43; (with_reducible refine (HO.out _ (kp_call HH3.out (by first | assumption | exact B2.out | exact kp_drew B2.out))).mono ?_); (rintro e X4 ⟨A4, n4, c4, rfl, ho4, hb4⟩; obtain rfl : 12 = n4 := (headG_len gg).symm.trans ho4.len; have hb24 : Below X2.heap.size X2 X4 := (by first | exact hb4 | exact (kp_drew (Below.refl _ _)).trans hb4); have cv4 := CVH.out X4 A4 c4 ho4.rb; have cv5 := CVL.out X4 hb24; clear ho4)))
      all_goals
        have q12 := hc12.out X4 hb24
        by_cases hz : z.toNat = 254
        · have t1 : ((z.toNat : Int) == 254) = true := by rw [hz]; rfl
          have FIN : Hid (headQ X = (gg, true)) := by rw [decide_eq_true hz] at HQ1; exact HQ1
          have HB := Lib.hid (kp_call HH3.out hb24)
          clear HQ1 hz hb24 hb4
          go_wp2_with fail
          go_quiet (fail)
          go_wp2
          go_ret3
          rw [FIN.out]
          exact ⟨rfl, kp_drewN HB.out _⟩
        · have t1 : ((z.toNat : Int) == 254) = false := beq_eq_false_iff_ne.2 (by omega)
          have FIN : Hid (headQ X = (gg, false)) := by rw [decide_eq_false hz] at HQ1; exact HQ1
          have HB := Lib.hid (kp_call HH3.out hb24)
          clear HQ1 hz hb24 hb4
          go_wp2_with fail
          go_quiet (fail)
          go_wp2
          go_ret3
          rw [FIN.out]
          exact ⟨rfl, kp_drewN HB.out _⟩
    · have HQ1 := HQ.out
      rw [if_neg he] at HQ1
      have hne : ¬ (strOf (headG gg)).toList = (strOf (L.take 12)).toList := by rw [strOf_toList, strOf_toList]; exact he
      obtain ⟨sx, hsx⟩ : ∃ sx, strOf (headG gg) = sx := ⟨_, rfl⟩
      obtain ⟨sy, hsy⟩ : ∃ sy, strOf (L.take 12) = sy := ⟨_, rfl⟩
      rw [hsx, hsy] at hne
      rw [hsy] at CVL
      rw [hsx] at CVH
      have hne2 : (sx.toList == sy.toList) = false := beq_eq_false_iff_ne.2 hne
      have hne3 : (sx.toList != sy.toList) = true := by simp [hne]
      have FIN := Lib.hid HQ1
      clear hsx hsy he HQ1
      have cv0 := CVL.out X2 (Below.refl _ _)
      have cv1 := CVL.out X2.drew (kp_drew (Below.refl _ _))
      go_wp2_with fail
      go_region_held (fun W => Below X2.heap.size X2 W) (repeat (with_reducible (first | assumption | exact B2.out | refine kp_drew ?_ | refine kp_call ?_ (by assumption))))
        (first
          | (go_at_call 43; (with_reducible refine (HO.out _ (kp_call HH3.out (by first | assumption | exact B2.out | exact kp_drew B2.out))).mono ?_); (rintro e X4 ⟨A4, n4, c4, rfl, ho4, hb4⟩; obtain rfl : 12 = n4 := (headG_len gg).symm.trans ho4.len; have hb24 : Below X2.heap.size X2 X4 := (by first | exact hb4 | exact (kp_drew (Below.refl _ _)).trans hb4); have cv4 := CVH.out X4 A4 c4 ho4.rb; have cv5 := CVL.out X4 hb24; clear ho4)))
      all_goals
        have HB := Lib.hid (kp_call HH3.out hb24)
        clear hb24 hb4
        go_wp2
        go_ret3
        rw [FIN.out]
        exact ⟨rfl, HB.out⟩
end
end Go.Proofs.YtkajlbdiofobcaaDoor
namespace Go.Proofs.YtkajlbdiofobcaaDoor
open Go.RowKit Go
set_option linter.unusedVariables false
set_option linter.unusedSimpArgs false
set_option maxRecDepth 100000
/-- A bank in the midst of a flash of six sectors of 128 bytes. -/
structure Hol (w wl : World) (b g a c n i : Nat) (S : FS) (rs : List RL) (k : Nat) : Prop where
  bk : BK wl w.heap.size b g a c S 1 n
  n6 : S.n = 6
  s8 : S.s = 128
  off : S.off = false
  left : S.left = 0
  bs : S.bs = List.replicate 128 255 ++ bankL (hdR 7) rs k ++ List.replicate ((5 - n) * 128) 255
  blen : (bankL (hdR 7) rs k).length = n * 128
  ok : ∀ r ∈ rs, r.ok
  wr : S.wr ≤ 1000 + i * 70000
  bel : Below w.heap.size w wl
theorem Hol.add {w wl w' : World} {b g a c n i : Nat} {S : FS} {rs : List RL} {k : Nat} (h : Hol w wl b g a c n i S rs k) {key val : List UInt8} {T : FS} {r : Int} (ha : AddIs S 1 n key val T r) (hK : BK w' w.heap.size b g a c T 1 n) (hb : Below w.heap.size w w') :
    (¬ (1 ≤ key.length ∧ key.length ≤ 255 ∧ val.length ≤ 65536) ∧ r = 1 ∧ Hol w w' b g a c n (i + 1) T rs k) ∨
    ((1 ≤ key.length ∧ key.length ≤ 255 ∧ val.length ≤ 65536) ∧ k < 12 + key.length + val.length ∧ r = 5 ∧ Hol w w' b g a c n (i + 1) T rs k) ∨
    ((1 ≤ key.length ∧ key.length ≤ 255 ∧ val.length ≤ 65536) ∧ 12 + key.length + val.length ≤ k ∧ r = 0 ∧ Hol w w' b g a c n (i + 1) T (rs ++ [⟨key, val, true⟩]) (k - (12 + key.length + val.length))) := by
  have hw := h.wr
  have hw2 : S.wr ≤ 1000 + (i + 1) * 70000 := Nat.le_trans hw (Nat.add_le_add_left (Nat.mul_le_mul_right _ (Nat.le_succ i)) _)
  have hl := h.blen
  have hl' : (bankL (hdR 7) rs k).length = n * S.s := by rw [h.s8]; exact hl
  rcases add_laid 1 n S _ (hdR 7) _ rs k key val T r h.left h.bs (by rw [h.s8]; simp) hl' (hdR_len 7) h.ok ha with ⟨h1, h2, h3⟩ | ⟨h1, h2, h3, h4⟩ | ⟨h1, h2, h3, h4⟩
  · left
    subst h2
    exact ⟨h1, h3, hK, h.n6, h.s8, h.off, h.left, h.bs, hl, h.ok, hw2, hb⟩
  · right; left
    subst h3
    exact ⟨h1, h2, h4, hK, h.n6, h.s8, h.off, h.left, h.bs, hl, h.ok, hw2, hb⟩
  · right; right
    refine ⟨h1, h2, h3, hK, by rw [h4]; exact h.n6, by rw [h4]; exact h.s8, by rw [h4]; exact h.off, by rw [h4]; exact h.left, by rw [h4], ?_, fun x hx => ?_, by rw [h4]; show S.wr + _ ≤ _; omega, hb⟩
    · rw [bankL_len] at hl ⊢
      rw [layAll_snoc, List.length_append, lay_len]
      simp only
      omega
    · rcases List.mem_append.1 hx with hx | hx
      · exact h.ok x hx
      · rw [List.mem_singleton.1 hx]
        exact ⟨h1.1, h1.2.1, h1.2.2⟩
theorem Hol.bank {w wl : World} {b g a c n i : Nat} {S : FS} {rs : List RL} {k : Nat} (h : Hol w wl b g a c n i S rs k) : S.bank 1 n = bankL (hdR 7) rs k :=
  bank_of h.bs (by rw [h.s8]; simp) (by rw [h.s8]; exact h.blen)
/-- What the bytes of the flash are. -/
theorem Hol.byte {w wl : World} {b g a c n i : Nat} {S : FS} {rs : List RL} {k : Nat} (h : Hol w wl b g a c n i S rs k) (hn : n ≤ 4) : S.bs.length = 768 ∧ (∀ j, j < 768 → (j < 128 ∨ 128 * (n + 1) ≤ j) → S.bs[j]? = some 255) ∧ S.bs[140]? = some 254 := by
  have hl := h.blen
  have hbl := h.bk.bytes
  rw [h.n6, h.s8] at hbl
  refine ⟨hbl, fun j hj hc => ?_, ?_⟩
  · rw [h.bs]
    rcases hc with hc | hc
    · rw [List.append_assoc, List.getElem?_append_left (by simp; omega), List.getElem?_replicate, if_pos hc]
    · rw [List.getElem?_append_right (by simp [hl]; omega), List.getElem?_replicate, if_pos (by simp [hl]; omega)]
  · have hhl := hdR_len 7
    rw [h.bs, List.append_assoc, List.getElem?_append_right (by simp)]
    unfold bankL hdR
    rw [List.length_replicate, List.append_assoc, List.append_assoc, List.append_assoc, List.getElem?_append_right (by rw [headG_len]; omega), headG_len]
    rfl
theorem same7_one (A B : Option Addr) (n c d : Nat) (x : List UInt8) (w : World) (hA : RB w A n x) (hB : RB w B n x) (hn : n ≤ 1000000000) :
    Calls Tryd.prog 28 #[.slice A n c, .slice B n d] w fun e w' => e = .returned (.bool true) ∧ Below w.heap.size w w' := by
  have h := same7_any A B n c n d x x w hA hB hn hn
  rw [decide_eq_true (rfl : x = x)] at h
  exact h
theorem head_hd (gen : Nat) (hg : gen < 4294967296) (rs : List RL) (k : Nat) : headQ (bankL (hdR gen) rs k) = (gen, true) := by
  have hhl := headG_len gen
  have e4 : cut (bankL (hdR gen) rs k) 4 4 = leB gen 4 := by
    unfold bankL hdR
    have h9 := cut_at [76, 78, 84, 76] (leB gen 4) (leB (ext 0#32 ([76, 78, 84, 76] ++ leB gen 4)).toNat 4 ++ [254, 255, 255, 255] ++ layAll rs ++ List.replicate k 255) 4 4 rfl (leB_len _ _)
    rw [← h9]
    unfold headG
    simp only [List.append_assoc]
  have et : (bankL (hdR gen) rs k).take 12 = headG gen := by
    unfold bankL hdR
    rw [List.append_assoc, List.append_assoc, List.take_append_of_le_length (by omega), List.take_of_length_le (by omega)]
  have eg : (bankL (hdR gen) rs k).getD 12 0 = 254 := by
    unfold bankL hdR
    rw [List.getD_eq_getElem?_getD, List.append_assoc, List.append_assoc, List.getElem?_append_right (by omega), hhl]
    rfl
  unfold headQ
  rw [e4, leN_leB4 gen hg, et, if_pos rfl, eg]
  rfl
end Go.Proofs.YtkajlbdiofobcaaDoor
