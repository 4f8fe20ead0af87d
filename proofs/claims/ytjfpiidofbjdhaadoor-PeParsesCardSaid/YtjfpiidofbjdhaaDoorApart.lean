/-
  Apart: slices that own blocks of their own are told to be apart, and nothing but these blocks is written.
-/
import Derived.Test.YtjfpiidofbjdhaaDoorApp1
import Derived.Test.YtjfpiidofbjdhaaDoorRef
import Derived.RegionTactic
import Derived.BigRegion
import Derived.ChangeAlike
import Derived.Deep.QuietTactic
import Derived.BigQuiet
import Derived.WalkSmall
namespace Go.Proofs.YtjfpiidofbjdhaaDoor
open Go.RowKit Go
set_option linter.unusedVariables false
set_option maxRecDepth 100000
section
variable {w w' : World} {base b' : Nat} {A A' : Option Addr} {n n' c c' : Nat} {xs ys : List UInt8}
theorem own_same (h1 : OwnB w base A n c xs) (h2 : OwnB w b' A' n' c' ys) (he : blk A = blk A') (hne : blk A ≠ none) : A = A' ∧ c = c' := by
  rcases h1.2 with ⟨hv, _⟩ | ⟨g, cap, cur, hv, _, hh, _, _, hcs, _⟩
  · injection hv with e1; subst e1; exact absurd rfl hne
  · injection hv with e1 _ e3
    subst e1; subst e3
    rcases h2.2 with ⟨hv', _⟩ | ⟨g', cap', cur', hv', _, hh', _, _, hcs', _⟩
    · injection hv' with e1; subst e1; exact absurd he.symm (by simp [blk])
    · injection hv' with e1 _ e3
      subst e1; subst e3
      have hg : g = g' := by simpa [blk] using he
      subst hg
      rw [hh] at hh'
      injection hh' with hh'
      injection hh' with hc
      subst hc
      exact ⟨rfl, by simpa using hcs.symm.trans hcs'⟩
theorem OwnB.cutTo (h : OwnB w base A n c xs) (k : Nat) (hk : k ≤ n) : OwnB w base A k c (xs.take k) := by
  have hl := h.len
  rcases h.2 with ⟨hv, hn⟩ | ⟨g, cap, cur, hv, hb, hh, hle, hm, hcs, htk⟩
  · subst hn
    obtain rfl : k = 0 := by omega
    injection hv with e1 e2 e3
    subst e1; subst e3
    exact OwnB.nil _ _
  · injection hv with e1 _ e3
    subst e1; subst e3
    refine ⟨by rw [List.length_map, List.length_take, hl]; omega, .inr ⟨g, c, cur, rfl, hb, hh, by omega, hm, hcs, ?_⟩⟩
    simp only [Nat.mul_one] at htk ⊢
    rw [List.map_take, ← htk, List.take_take, Nat.min_eq_left hk]
theorem OwnB.blk_some (h : OwnB w base A n c xs) (hn : 0 < n) : ∃ g, A = some ⟨g, 0, none⟩ ∧ blk A = some g ∧ base ≤ g ∧ g < w.heap.size := by
  obtain ⟨g, rfl, h1, h2⟩ := h.shape (by have := h.cap; omega)
  exact ⟨g, rfl, rfl, h1, h2⟩
theorem keepB {V : Option Addr} {m cv : Nat} {vs : List Value} (h : OwnB w base A n c xs) (hV : OwnS w b' V m cv vs) (hg : w.grownBy w' (blk V)) : OwnB w' base A n c xs := by
  refine h.kept hg ?_
  cases hA : blk A with
  | none => exact .inl rfl
  | some g =>
    right
    intro e
    rcases own_ne hV h (by decide) with h1 | h1
    · rw [h1] at e; cases e
    · exact h1 (by rw [hA]; exact e.symm)
end
/-- Memory between two block numbers stands. -/
def Mid (lo hi : Nat) (w w' : World) : Prop := ∀ k, lo ≤ k → k < hi → w'.heap[k]? = w.heap[k]?
section
variable {lo hi : Nat} {a b c : World}
theorem Mid.refl : Mid lo hi a a := fun _ _ _ => rfl
theorem Mid.trans (h : Mid lo hi a b) (k : Mid lo hi b c) : Mid lo hi a c := fun i h1 h2 => (k i h1 h2).trans (h i h1 h2)
theorem Mid.of_below (h : Below hi a b) : Mid lo hi a b := fun k _ h2 => h.block k h2
theorem Mid.of_grown {row : Option Nat} (h : a.grownBy b row) (hh : hi ≤ a.heap.size) (hr : ∀ k, row = some k → k < lo ∨ hi ≤ k) : Mid lo hi a b := fun k h1 h2 => h.block k (by omega) (fun e => by
  rcases hr k e.symm with h3 | h3 <;> omega)
theorem Mid.own (h : Mid lo hi a b) {A : Option Addr} {n cc : Nat} {xs : List UInt8} (ho : OwnB a lo A n cc xs) (hh : a.heap.size = hi) : OwnB b lo A n cc xs := by
  obtain ⟨h1, h2⟩ := ho
  refine ⟨h1, ?_⟩
  rcases h2 with hn | ⟨g, cap, cur, hv, hb, hc, rest⟩
  · exact .inl hn
  · refine .inr ⟨g, cap, cur, hv, hb, ?_, rest⟩
    rw [h g hb (by have := (Array.getElem?_eq_some_iff.1 hc).1; omega)]
    exact hc
theorem Mid.ownS (h : Mid lo hi a b) {V : Option Addr} {m cc : Nat} {vs : List Value} (ho : OwnS a lo V m cc vs) (hh : a.heap.size = hi) : OwnS b lo V m cc vs := by
  obtain ⟨h1, h2⟩ := ho
  refine ⟨h1, ?_⟩
  rcases h2 with hn | ⟨g, cap, cur, hv, hb, hc, rest⟩
  · exact .inl hn
  · refine .inr ⟨g, cap, cur, hv, hb, ?_, rest⟩
    rw [h g hb (by have := (Array.getElem?_eq_some_iff.1 hc).1; omega)]
    exact hc
end
theorem take_snoc_at {α : Type} (l : List α) (x : α) (r : Nat) : (l ++ [x])[r]? = if r < l.length then l[r]? else if r = l.length then some x else none := by
  by_cases h : r < l.length
  · rw [List.getElem?_append_left h, if_pos h]
  · rw [List.getElem?_append_right (by omega), if_neg h]
    by_cases h2 : r = l.length
    · subst h2; simp
    · rw [if_neg h2, List.getElem?_eq_none (by simp; omega)]
/-- The mark of row i. -/
def mkr (i : Nat) : UInt8 := UInt8.ofNat (i + 1)
theorem mkr_num (i : Nat) : IntKind.u8.wrap ((i : Int) + 1) = ((mkr i).toNat : Int) := by
  unfold mkr
  rw [IntKind.wrap_u8', UInt8.toNat_ofNat']
  omega
section
variable (V : Option Addr) (m c : Nat) (vs : List Value) (A : Nat → Option Addr) (n cc : Nat → Nat) (bss : Nat → List UInt8) (base : Nat) (w : World)
/-- What Apart is handed. -/
structure Fam (w : World) : Prop where
  row : OwnS w base V m c vs
  at_ : ∀ r, r < m → vs[r]? = some (.slice (A r) (n r) (cc r))
  own : ∀ r, r < m → OwnB w base (A r) (n r) (cc r) (bss r)
  far : ∀ r s, r < m → s < m → r ≠ s → blk (A r) = none ∨ blk (A r) ≠ blk (A s)
  lim : ∀ r, r < m → n r ≤ 1000000
/-- The first i copies. -/
def Copies (lo : Nat) (w : World) (i : Nat) (ws : List Value) : Prop := ∀ r, r < i → ∃ C cr, ws[r]? = some (.slice C (n r) cr) ∧ OwnB w lo C (n r) cr (bss r)
end
section
variable {V : Option Addr} {m c : Nat} {vs : List Value} {A : Nat → Option Addr} {n cc : Nat → Nat} {bss : Nat → List UInt8} {base : Nat} {w w' : World}
theorem Fam.below (h : Fam V m c vs A n cc bss base w) {B : Nat} (hb : Below B w w') (hB : w.heap.size ≤ B) : Fam V m c vs A n cc bss base w' :=
  ⟨h.row.below hb hB, h.at_, fun r hr => (h.own r hr).below hb hB, h.far, h.lim⟩
end
/-- What stands of the long ones: the first i. -/
structure Longs (V : Option Addr) (m c : Nat) (vs : List Value) (A : Nat → Option Addr) (n cc : Nat → Nat) (bss : Nat → List UInt8) (base hi : Nat) (w : World) (i : Nat) (ms : List Value) (G : Nat → Option Addr × Nat) : Prop where
  at_ : ∀ r, r < i → ms[r]? = some (.slice (G r).1 (n r + 40) (G r).2)
  own : ∀ r, r < i → OwnB w base (G r).1 (n r + 40) (G r).2 (bss r ++ List.replicate 40 (mkr r))
  or_ : ∀ r, r < i → ((G r).1 = A r ∧ (G r).2 = cc r) ∨ (∃ k, blk (G r).1 = some k ∧ hi ≤ k)
  far : ∀ r s, r < i → s < i → r ≠ s → blk (G r).1 ≠ blk (G s).1
/-- One that is gone on with. -/
structure Going (A : Option Addr) (cA : Nat) (base hs : Nat) (w : World) (n k : Nat) (bs : List UInt8) (x : UInt8) (g : Option Addr) (cg : Nat) : Prop where
  own : OwnB w base g (n + k) cg (bs ++ List.replicate k x)
  old : OwnB w base A n cA bs
  or_ : (g = A ∧ cg = cA) ∨ (∃ j, blk g = some j ∧ hs ≤ j)
theorem Going.step {A g : Option Addr} {cA base hs n k cg cg' : Nat} {w w1 w2 : World} {bs : List UInt8} {x : UInt8} {g' : Option Addr} (hG : Going A cA base hs w n k bs x g cg)
    (h1 : OwnB w2 base g' (n + k + 1) cg' (bs ++ List.replicate k x ++ [x])) (h2 : OwnB w2 base g (n + k) cg (bs ++ List.replicate k x)) (hg : w1.grownBy w2 (blk g)) (ho : OwnB w1 base A n cA bs) (H : Nat) (hb : blk g' = blk g ∨ blk g' = some H) (hw : hs ≤ H) (hlt : ∀ k, blk A = some k → k < hs) :
    Going A cA base hs w2 n (k + 1) bs x g' cg' := by
  have hsome : blk g' ≠ none := by
    obtain ⟨j, _, h3, _⟩ := h1.blk_some (by omega)
    rw [h3]; simp
  refine ⟨by rw [List.replicate_succ', ← List.append_assoc, ← Nat.add_assoc]; exact h1, ?_, ?_⟩
  · rcases hG.or_ with ⟨rfl, rfl⟩ | ⟨j, hj, hj2⟩
    · have := h2.cutTo n (by omega)
      rwa [← hG.old.len, List.take_left, hG.old.len] at this
    · refine ho.kept hg ?_
      right
      intro e
      rw [hj] at e
      have := hlt j e
      omega
  · rcases hb with hb | hb
    · obtain ⟨e1, e2⟩ := own_same h1 h2 hb hsome
      subst e1; subst e2
      exact hG.or_
    · exact .inr ⟨_, hb, hw⟩
theorem below_drewN {B : Nat} {a b : World} (h : Below B a b) (k : Nat) : Below B a (b.drewN k) := ⟨h.os, h.tape, h.output, h.size, h.block⟩
theorem eq_same (A1 A2 : Option Addr) (n1 n2 c1 c2 : Nat) (xs : List UInt8) (w : World) (h1 : RB w A1 n1 xs) (h2 : RB w A2 n2 xs) :
    Calls Tryd.prog 21 #[.slice A1 n1 c1, .slice A2 n2 c2] w fun e w' => e = .returned (.bool true) ∧ w' = w :=
  (eq_any A1 A2 n1 n2 c1 c2 xs xs w h1 h2).mono fun _ _ ⟨a, b⟩ => ⟨by rw [a]; simp, b.symm⟩
def upd (G : Nat → Option Addr × Nat) (i : Nat) (x : Option Addr × Nat) : Nat → Option Addr × Nat := fun r => if r = i then x else G r
theorem upd_same (G : Nat → Option Addr × Nat) (i : Nat) (x : Option Addr × Nat) : upd G i x i = x := by simp [upd]
theorem upd_other (G : Nat → Option Addr × Nat) (i r : Nat) (x : Option Addr × Nat) (h : r ≠ i) : upd G i x r = G r := by simp [upd, h]

set_option maxHeartbeats 4000000 in
theorem apart_any (V : Option Addr) (m c : Nat) (vs : List Value) (A : Nat → Option Addr) (n cc : Nat → Nat) (bss : Nat → List UInt8) (base : Nat) (w : World)
    (hF : Fam V m c vs A n cc bss base w) (hm : m ≤ 100000) (hbase : base ≤ w.heap.size) :
    Calls Tryd.prog 18 #[.slice V m c] w fun e w' => e = .returned (.bool true) ∧ Below base w w' := by
  have HF := Lib.hid hF
  clear hF
  go_enter Tryd.func18, Tryd.ntmps18
  go_wp2
  go_loopw [3, 4] (fun v x wl => ∃ (i : Nat) (Wv : Option Addr) (cw : Nat) (ws : List Value), i ≤ m ∧ x = .int .i64 i ∧ v = .slice Wv i cw ∧ OwnS wl w.heap.size Wv i cw ws ∧ Copies n bss w.heap.size wl i ws ∧ Below w.heap.size w wl) (fun _ x _ => m - (intOf x).toNat)
  case atStart => exact ⟨0, none, 0, [], Nat.zero_le _, rfl, rfl, OwnS.nil _ _, fun r hr => absurd hr (Nat.not_lt_zero _), Below.refl _ _⟩
  case round =>
    obtain ⟨i, Wv, cw, ws, hi, rfl, rfl, hws, hcp, hbl⟩ := hrel
    have HCP := Lib.hid hcp
    clear hcp
    by_cases hlt : i < m
    · have hFl := Lib.hid (HF.out.below hbl (Nat.le_refl _))
      have hlim := HF.out.lim i hlt
      obtain ⟨gV, hVe, _, hgV, hcell⟩ := hFl.out.row.at_ (HF.out.at_ i hlt)
      subst hVe
      have hRi := (hFl.out.own i hlt).rb
      go_wp2_with fail
      refine (copy_any (A i) (n i) (cc i) (bss i) wr hRi (by omega)).mono ?_
      rintro e w2 ⟨C, nC, cC, rfl, hown2, hb2⟩
      obtain rfl : n i = nC := hRi.1.symm.trans hown2.len
      have hsz := hbl.size
      have hws2 := hws.below hb2 (Nat.le_refl _)
      have hb2' := hbl.trans (hb2.mono hsz)
      have hsz2 := hb2'.size
      go_wp2_with (at_builtin; refine wpList_appS (.tmp 21) (.tmp 27) rfl rfl rfl w.heap.size Wv i cw ws rfl (hws2.alloc _) w2.heap.size _ (.slice C (n i) cC) rfl (by simp) rfl (by omega) (by simp; omega) ?_)
      intro V3 c3 w3 hws3 hg3
      have hcp3 : Hid (Copies n bss w.heap.size w3 (i + 1) (ws ++ [.slice C (n i) cC])) := by
        intro r hr
        rw [take_snoc_at, hws.len]
        by_cases hri : r < i
        · obtain ⟨C', cr, h1, h2⟩ := HCP.out r hri
          exact ⟨C', cr, by rw [if_pos hri]; exact h1, keepB ((h2.below hb2 (Nat.le_refl _)).alloc _) (hws2.alloc _) hg3⟩
        · obtain rfl : r = i := by omega
          exact ⟨C, cC, by rw [if_neg (by omega), if_pos rfl], keepB ((hown2.lower hsz).alloc _) (hws2.alloc _) hg3⟩
      have hb3 : Below w.heap.size w w3 := (hb2'.alloc hsz2 _).grown hg3 (by simp; omega) (fun g hg => by
        obtain ⟨h1, _⟩ := World.ownsRow.lt hws g (by rw [blk_own]; exact hg)
        exact h1)
      clear hcell
      go_wp2
      go_roundw
      case rel => exact ⟨i + 1, V3, c3, _, by omega, by go_num, rfl, hws3, hcp3.out, hb3⟩
      case measure => simp [intOf]; omega
    · obtain rfl : i = m := by omega
      -- the copies are made; w1 is the world behind them
      obtain ⟨w1, rfl⟩ : ∃ w1 : World, w1 = wr := ⟨_, rfl⟩
      have hF1 := Lib.hid (HF.out.below hbl (Nat.le_refl _))
      have hsz1 := hbl.size
      go_wp2
      go_loopw [5, 6, 7] (fun v x y wl => ∃ (j : Nat) (Mv : Option Addr) (cm : Nat) (ms : List Value) (G : Nat → Option Addr × Nat), j ≤ i ∧ x = .int .i64 j ∧ v = .slice Mv j cm ∧ OwnS wl w1.heap.size Mv j cm ms ∧ Longs V i c vs A n cc bss base w1.heap.size wl j ms G ∧ Fam V i c vs A n cc bss base wl ∧ Mid w.heap.size w1.heap.size w1 wl ∧ Below base w wl ∧ w1.heap.size ≤ wl.heap.size) (fun _ x _ _ => i - (intOf x).toNat)
      case atStart => exact ⟨0, none, 0, [], fun _ => (none, 0), Nat.zero_le _, rfl, rfl, OwnS.nil _ _, ⟨fun r hr => absurd hr (Nat.not_lt_zero _), fun r hr => absurd hr (Nat.not_lt_zero _), fun r hr => absurd hr (Nat.not_lt_zero _), fun r s hr => absurd hr (Nat.not_lt_zero _)⟩, hF1.out, Mid.refl, hbl.mono hbase, Nat.le_refl _⟩
      case round =>
        obtain ⟨j, Mv, cm, ms, G, hj, rfl, rfl, hms, hL, hFa, hmid, hbb, hszb⟩ := hrel
        obtain ⟨w2, rfl⟩ : ∃ w2 : World, w2 = wr := ⟨_, rfl⟩
        have HL := Lib.hid hL
        have HFa := Lib.hid hFa
        have HM := Lib.hid hmid
        clear hL hFa hmid
        by_cases hlt2 : j < i
        · have hlim := HF.out.lim j hlt2
          obtain ⟨gV, hVe, _, hgV, hcell⟩ := HFa.out.row.at_ (HF.out.at_ j hlt2)
          subst hVe
          have hAlt : ∀ k, blk (A j) = some k → base ≤ k ∧ k < w.heap.size := fun k hk => (HF.out.own j hlt2).blk_lt hk
          have HAlt := Lib.hid hAlt
          clear hAlt
          go_wp2
          go_loopw [7, 8] (fun g x wk => ∃ (t : Nat) (ga : Option Addr) (cg : Nat), t ≤ 40 ∧ x = .int .i64 t ∧ g = .slice ga (n j + t) cg ∧ Going (A j) (cc j) base w2.heap.size wk (n j) t (bss j) (mkr j) ga cg ∧ w2.grownBy wk (blk (A j))) (fun _ x _ => 40 - (intOf x).toNat)
          case atStart => exact ⟨0, A j, cc j, Nat.zero_le _, rfl, rfl, ⟨by simpa using HFa.out.own j hlt2, HFa.out.own j hlt2, .inl ⟨rfl, rfl⟩⟩, World.grownBy.refl _ _⟩
          case round =>
            obtain ⟨t, ga, cg, ht, rfl, rfl, hgo, hgr⟩ := hrel
            have HG := Lib.hid hgo
            have hown := hgo.own
            clear hgo
            by_cases hlt3 : t < 40
            · have hmk := mkr_num j
              have hszk := hgr.size
              go_wp2_with (at_builtin; refine wpList_app1 (.tmp 43) (.tmp 47) rfl rfl rfl base ga (n j + t) cg _ rfl (hown.alloc _) wr.heap.size _ (mkr j) rfl (by simp) (by omega) (by simp; omega) ?_)
              intro g4 c4 w4 h1 h2 hg4 hb4
              have hst : Hid (Going (A j) (cc j) base w2.heap.size w4 (n j) (t + 1) (bss j) (mkr j) g4 c4) :=
                HG.out.step (by rw [List.append_assoc]; exact h1) h2 hg4 (HG.out.old.alloc _) (wr.heap.size + 1) hb4 (by omega) (fun k hk => by have := HAlt.out k hk; omega)
              have hgr4 : Hid (w2.grownBy w4 (blk (A j))) := by
                refine ⟨hg4.os.trans hgr.os, hg4.tape.trans hgr.tape, hg4.output.trans hgr.output, Nat.le_trans hszk (Nat.le_trans (by simp) hg4.size), fun k hk hne => ?_⟩
                rw [hg4.block k (by simp; omega) (fun e => by
                  rcases HG.out.or_ with ⟨e1, _⟩ | ⟨q, hq, hq2⟩
                  · exact hne (by rw [e, e1])
                  · rw [hq] at e; injection e with e; omega), Below.heap_alloc _ _ _ (by omega)]
                exact hgr.block k hk hne
              clear h1 h2 hg4 hb4 hmk
              go_wp2
              go_roundw
              case rel => exact ⟨t + 1, g4, c4, by omega, by go_num, rfl, hst.out, hgr4.out⟩
              case measure => simp [intOf]; omega
            · obtain rfl : t = 40 := by omega
              have hszk := hgr.size
              have hrowA : ∀ k, blk (A j) = some k → k < w.heap.size ∨ w1.heap.size ≤ k := fun k hk => .inl (HAlt.out k hk).2
              have hms2 : OwnS wr w1.heap.size Mv j cm ms := hms.kept hgr (by
                cases hM : blk Mv with
                | none => exact .inl rfl
                | some q =>
                  right
                  intro e
                  have hq := World.ownsRow.lt hms q (by rw [blk_own]; exact hM)
                  have := (HAlt.out q e.symm).2
                  omega)
              have hFk : Hid (Fam (some ⟨gV, 0, none⟩) i c vs A n cc bss base wr) := by
                refine ⟨HFa.out.row.kept hgr (own_ne HFa.out.row (HFa.out.own j hlt2) (by decide)), HFa.out.at_, fun r hr => ?_, HFa.out.far, HFa.out.lim⟩
                by_cases hrj : r = j
                · subst hrj; exact HG.out.old
                · exact (HFa.out.own r hr).kept hgr (HFa.out.far r j hr hlt2 hrj)
              have hLk : Hid (Longs (some ⟨gV, 0, none⟩) i c vs A n cc bss base w1.heap.size wr j ms G) := by
                refine ⟨HL.out.at_, fun r hr => (HL.out.own r hr).kept hgr ?_, HL.out.or_, HL.out.far⟩
                right
                rcases HL.out.or_ r hr with ⟨e1, _⟩ | ⟨q, hq, hq2⟩
                · rw [e1]
                  rcases HFa.out.far r j (by omega) hlt2 (by omega) with h9 | h9
                  · have := HL.out.own r hr
                    obtain ⟨q, _, hq, _⟩ := this.blk_some (by omega)
                    rw [e1, h9] at hq; cases hq
                  · exact h9
                · rw [hq]
                  intro e
                  have := (HAlt.out q e.symm).2
                  omega
              have hbk : Below base w wr := hbb.grown hgr (by omega) (fun g hg => (HAlt.out g hg).1)
              have hMk : Hid (Mid w.heap.size w1.heap.size w1 wr) := HM.out.trans (Mid.of_grown hgr hszb hrowA)
              go_wp2_with (at_builtin; refine wpList_appS (.tmp 49) (.tmp 51) rfl rfl rfl w1.heap.size Mv j cm ms rfl (hms2.alloc _) wr.heap.size _ (.slice ga (n j + 40) cg) rfl (by simp) rfl (by omega) (by simp; omega) ?_)
              intro V3 c3 w3 hms3 hg3
              have hbA : Below wr.heap.size wr (wr.alloc (.cells #[.slice ga (n j + 40) cg] 22)) := (Below.refl _ _).alloc (Nat.le_refl _) _
              have hMrow : ∀ k, blk Mv = some k → w1.heap.size ≤ k := fun k hk => (World.ownsRow.lt hms k (by rw [blk_own]; exact hk)).1
              have hF3 : Fam (some ⟨gV, 0, none⟩) i c vs A n cc bss base w3 := by
                refine ⟨((hFk.out.row.alloc _).kept hg3 ?_), hFk.out.at_, fun r hr => keepB ((hFk.out.own r hr).alloc _) (hms2.alloc _) hg3, hFk.out.far, hFk.out.lim⟩
                right
                intro e
                have h7 := World.ownsRow.lt HF.out.row gV (by rw [blk_own]; rfl)
                have h8 := hMrow gV e.symm
                omega
              have hL3 : Longs (some ⟨gV, 0, none⟩) i c vs A n cc bss base w1.heap.size w3 (j + 1) (ms ++ [.slice ga (n j + 40) cg]) (upd G j (ga, cg)) := by
                have hmsl := hms.len
                refine ⟨fun r hr => ?_, fun r hr => ?_, fun r hr => ?_, fun r s hr hs hrs => ?_⟩
                · rw [take_snoc_at, hmsl]
                  by_cases hrj : r < j
                  · rw [if_pos hrj, upd_other _ _ _ _ (by omega)]; exact HL.out.at_ r hrj
                  · obtain rfl : r = j := by omega
                    rw [if_neg (by omega), if_pos rfl, upd_same]
                · by_cases hrj : r < j
                  · rw [upd_other _ _ _ _ (by omega)]; exact keepB ((hLk.out.own r hrj).alloc _) (hms2.alloc _) hg3
                  · obtain rfl : r = j := by omega
                    rw [upd_same]
                    exact keepB (HG.out.own.alloc _) (hms2.alloc _) hg3
                · by_cases hrj : r < j
                  · rw [upd_other _ _ _ _ (by omega)]; exact HL.out.or_ r hrj
                  · obtain rfl : r = j := by omega
                    rw [upd_same]
                    rcases HG.out.or_ with h8 | ⟨q, hq, hq2⟩
                    · exact .inl h8
                    · exact .inr ⟨q, hq, by omega⟩
                · have key : ∀ r, r < j → blk (G r).1 ≠ blk ga := by
                    intro r hr
                    obtain ⟨q, _, hq, _, hql⟩ := (HL.out.own r hr).blk_some (by omega)
                    rcases HG.out.or_ with ⟨e1, _⟩ | ⟨q', hq', hq2⟩
                    · rw [e1]
                      rcases HL.out.or_ r hr with ⟨e2, _⟩ | ⟨q3, hq3, hq4⟩
                      · rw [e2]
                        rcases HFa.out.far r j (by omega) hlt2 (by omega) with h9 | h9
                        · rw [e2, h9] at hq; cases hq
                        · exact h9
                      · rw [hq3]
                        intro e
                        have := (HAlt.out q3 e.symm).2
                        omega
                    · rw [hq, hq']
                      intro e
                      injection e with e
                      omega
                  by_cases hrj : r < j
                  · rw [upd_other _ _ _ _ (by omega)]
                    by_cases hsj : s < j
                    · rw [upd_other _ _ _ _ (by omega)]; exact HL.out.far r s hrj hsj hrs
                    · obtain rfl : s = j := by omega
                      rw [upd_same]; exact key r hrj
                  · obtain rfl : r = j := by omega
                    rw [upd_same, upd_other _ _ _ _ (by omega)]
                    exact fun e => key s (by omega) e.symm
              have HL3 := Lib.hid hL3
              have HF3 := Lib.hid hF3
              have hM3 : Hid (Mid w.heap.size w1.heap.size w1 w3) := (hMk.out.trans (Mid.of_below (hbA.mono (by omega)))).trans (Mid.of_grown hg3 (by simp; omega) (fun k hk => .inr (hMrow k hk)))
              have hb3 : Below base w w3 := (hbk.alloc (by omega) _).grown hg3 (by simp; omega) (fun g hg => by have := hMrow g hg; omega)
              have hsz3 : w1.heap.size ≤ w3.heap.size := by have := hg3.size; simp at this; omega
              clear hL3 hF3 hrowA hMrow
              go_wp2
              go_roundw
              case rel => exact ⟨j + 1, V3, c3, _, _, by omega, by go_num, rfl, hms3, HL3.out, HF3.out, hM3.out, hb3, hsz3⟩
              case measure => simp [intOf]; omega
        · obtain rfl : j = i := by omega
          have hwsK := HM.out.ownS hws rfl
          have hCK : Hid (Copies n bss w.heap.size w2 j ws) := fun r hr => by
            obtain ⟨C, cr, h1, h2⟩ := HCP.out r hr
            exact ⟨C, cr, h1, HM.out.own h2 rfl⟩
          go_wp2
          go_loopw [9] (fun x wl => ∃ q : Nat, q ≤ j ∧ x = .int .i64 q ∧ Below w2.heap.size w2 wl) (fun x _ => j - (intOf x).toNat)
          case atStart => exact ⟨0, Nat.zero_le _, rfl, Below.refl _ _⟩
          case round =>
            obtain ⟨q, hq, rfl, hbq⟩ := hrel
            by_cases hlt4 : q < j
            · have hlim := HF.out.lim q hlt4
              obtain ⟨gV, hVe, _, hgV, hcell⟩ := (HFa.out.row.below hbq (Nat.le_refl _)).at_ (HF.out.at_ q hlt4)
              subst hVe
              go_wp2
              go_loopw [11] (fun x wl => ∃ t : Nat, t ≤ 40 ∧ x = .int .i64 t ∧ Below w2.heap.size w2 wl) (fun x _ => 40 - (intOf x).toNat)
              case atStart => exact ⟨0, Nat.zero_le _, rfl, hbq⟩
              case round =>
                obtain ⟨t, ht, rfl, hbt⟩ := hrel
                by_cases hlt5 : t < 40
                · obtain ⟨gM, hMe, _, hgM, hcellM⟩ := (hms.below hbt (Nat.le_refl _)).at_ (HL.out.at_ q hlt4)
                  subst hMe
                  have hLq := (HL.out.own q hlt4).below hbt (Nat.le_refl _)
                  obtain ⟨gB, hGe, _, _, _⟩ := hLq.blk_some (by omega)
                  rw [hGe] at hLq hcellM
                  have hcellB := hLq.cellAt (n q + t) (mkr q) (by
                    rw [List.getElem?_append_right (by have := (HF.out.own q hlt4).len; omega), List.getElem?_replicate, if_pos (by have := (HF.out.own q hlt4).len; omega)])
                  have hmk := mkr_num q
                  go_wp2
                  go_roundw
                  case rel => exact ⟨t + 1, by omega, by go_num, hbt⟩
                  case measure => simp [intOf]; omega
                · obtain rfl : t = 40 := by omega
                  obtain ⟨gV', hVe', _, _, hcellV⟩ := (HFa.out.row.below hbt (Nat.le_refl _)).at_ (HF.out.at_ q hlt4)
                  cases hVe'
                  obtain ⟨C, cr, hwq, hoC⟩ := hCK.out q hlt4
                  obtain ⟨gW, hWe, _, _, hcellW⟩ := (hwsK.below hbt (Nat.le_refl _)).at_ hwq
                  subst hWe
                  have hRq := ((HFa.out.own q hlt4).below hbt (Nat.le_refl _)).rb
                  have hRC := (hoC.below hbt (Nat.le_refl _)).rb
                  go_wp2
                  go_quiet ((go_at_call 21; exact Calls.quiet_of_same (eq_same _ _ _ _ _ _ _ _ (hRq.drewN _) (hRC.drewN _))))
                  go_wp2
                  go_roundw
                  case rel => exact ⟨q + 1, by omega, by go_num, below_drewN hbt _⟩
                  case measure => simp [intOf]; omega
            · obtain rfl : q = j := by omega
              obtain ⟨w3, rfl⟩ : ∃ w3 : World, w3 = wr := ⟨_, rfl⟩
              have hsz3 := hbq.size
              have hF3 := Lib.hid (HFa.out.below hbq (Nat.le_refl _))
              have hws3 := hwsK.below hbq (Nat.le_refl _)
              have hC3 : Hid (Copies n bss w.heap.size w3 q ws) := fun r hr => by
                obtain ⟨C, cr, h1, h2⟩ := hCK.out r hr
                exact ⟨C, cr, h1, h2.below hbq (Nat.le_refl _)⟩
              have hb3 : Below base w w3 := hbb.trans (hbq.mono (by omega))
              go_wp2
              go_loopw [12] (fun x wl => ∃ (i : Nat) (D : Nat → List UInt8), i ≤ q ∧ x = .int .i64 i ∧ (∀ r, r < q → OwnB wl base (A r) (n r) (cc r) (D r)) ∧ (∀ r, r < q → i ≤ r → D r = bss r) ∧ OwnS wl base V q c vs ∧ Mid w.heap.size w3.heap.size w3 wl ∧ Below base w wl ∧ w3.heap.size ≤ wl.heap.size) (fun x _ => q - (intOf x).toNat)
              case atStart => exact ⟨0, bss, Nat.zero_le _, rfl, hF3.out.own, fun _ _ _ => rfl, hF3.out.row, Mid.refl, hb3, Nat.le_refl _⟩
              case round =>
                obtain ⟨i, D, hi, rfl, hD, hDb, hrow, hmidk, hbk, hszk⟩ := hrel
                have HD := Lib.hid hD
                have HDb := Lib.hid hDb
                have HMk := Lib.hid hmidk
                clear hD hDb hmidk
                by_cases hlt6 : i < q
                · obtain ⟨w4, rfl⟩ : ∃ w4 : World, w4 = wr := ⟨_, rfl⟩
                  have hlim := HF.out.lim i hlt6
                  obtain ⟨gV, hVe, _, _, _⟩ := hrow.at_ (HF.out.at_ i hlt6)
                  subst hVe
                  have hownI := HD.out i hlt6
                  have hVA := own_ne hrow hownI (by decide)
                  go_wp2
                  go_loopw [13] (fun x wk => ∃ (t : Nat) (ds : List UInt8), t ≤ n i ∧ x = .int .i64 t ∧ OwnB wk base (A i) (n i) (cc i) ds ∧ w4.grownBy wk (blk (A i))) (fun x _ => n i - (intOf x).toNat)
                  case atStart => exact ⟨0, D i, Nat.zero_le _, rfl, hownI, World.grownBy.refl _ _⟩
                  case round =>
                    obtain ⟨t, ds, ht, rfl, hod, hgr⟩ := hrel
                    obtain ⟨gV', hVe', _, _, hcellV⟩ := (hrow.kept hgr hVA).at_ (HF.out.at_ i hlt6)
                    cases hVe'
                    by_cases hlt7 : t < n i
                    · obtain ⟨gA, hAe, _, _, _⟩ := hod.blk_some (by omega)
                      have hgA : blk (A i) = some gA := by rw [hAe]; rfl
                      rw [hAe] at hod hcellV
                      obtain ⟨y, hy⟩ : ∃ y, ds[t]? = some y := ⟨_, List.getElem?_eq_getElem (by have := hod.len; omega)⟩
                      have hcy := hod.cellAt t y hy
                      have hfr := hod.free t
                      have hst := hod.stored t (y + 1)
                      have hy1 : IntKind.u8.wrap ((y.toNat : Int) + 1) = ((y + 1).toNat : Int) := by
                        rw [IntKind.wrap_u8', UInt8.toNat_add]
                        simp
                      go_wp2
                      go_region
                      have hg2 : w4.grownBy (wr.drew.setCell ⟨gA, t, none⟩ (.int .u8 ((y + 1).toNat : Int))) (blk (A i)) := by
                        rw [hgA]
                        have hg1 := grown_set wr.drew gA t (.int .u8 ((y + 1).toNat : Int))
                        rw [hgA] at hgr
                        exact ⟨hg1.os.trans hgr.os, hg1.tape.trans hgr.tape, hg1.output.trans hgr.output, Nat.le_trans hgr.size hg1.size, fun k hk hne => (hg1.block k (Nat.lt_of_lt_of_le hk hgr.size) hne).trans (hgr.block k hk hne)⟩
                      go_wp2
                      go_roundw
                      case rel => exact ⟨t + 1, ds.set t (y + 1), by omega, by go_num, by rw [hAe]; exact hst, hg2⟩
                      case measure => simp [intOf]; omega
                    · obtain rfl : n i = t := by omega
                      have hcp4 := hszk
                      have hsz5 := hgr.size
                      have hrow5 := Lib.hid (hrow.kept hgr hVA)
                      have hD5 : Hid (∀ r, r < q → OwnB wr base (A r) (n r) (cc r) (if r = i then ds else D r)) := fun r hr => by
                        by_cases hri : r = i
                        · subst hri; rw [if_pos rfl]; exact hod
                        · rw [if_neg hri]; exact (HD.out r hr).kept hgr (HF.out.far r i hr hlt6 hri)
                      have hblkA : ∀ k, blk (A i) = some k → base ≤ k ∧ k < w.heap.size := fun k hk => (HF.out.own i hlt6).blk_lt hk
                      have hM5 : Hid (Mid w.heap.size w3.heap.size w3 wr) := HMk.out.trans (Mid.of_grown hgr hszk (fun k hk => .inl (hblkA k hk).2))
                      have hb5 : Below base w wr := hbk.grown hgr (by omega) (fun k hk => (hblkA k hk).1)
                      have hws5 := hM5.out.ownS hws3 rfl
                      obtain ⟨w5, rfl⟩ : ∃ w5 : World, w5 = wr := ⟨_, rfl⟩
                      clear hblkA
                      go_wp2
                      go_loopw [14] (fun x wk => ∃ (s : Nat), s ≤ q ∧ i < s ∧ x = .int .i64 s ∧ Below w5.heap.size w5 wk) (fun x _ => q - (intOf x).toNat)
                      case atStart => exact ⟨i + 1, by omega, by omega, by go_num, Below.refl _ _⟩
                      case round =>
                        obtain ⟨s, hs, his, rfl, hbs⟩ := hrel
                        by_cases hlt8 : s < q
                        · have hlim8 := HF.out.lim s hlt8
                          obtain ⟨gV', hVe', _, _, hcellV⟩ := (hrow5.out.below hbs (Nat.le_refl _)).at_ (HF.out.at_ s hlt8)
                          cases hVe'
                          obtain ⟨C, cr, hwq, hoC⟩ := hC3.out s hlt8
                          obtain ⟨gW, hWe, _, _, hcellW⟩ := (hws5.below hbs (Nat.le_refl _)).at_ hwq
                          subst hWe
                          have hRq := hD5.out s hlt8
                          rw [if_neg (by omega), HDb.out s hlt8 (by omega)] at hRq
                          have hRq := (hRq.below hbs (Nat.le_refl _)).rb
                          have hRC := ((hM5.out.own hoC rfl).below hbs (Nat.le_refl _)).rb
                          go_wp2
                          go_quiet ((go_at_call 21; exact Calls.quiet_of_same (eq_same _ _ _ _ _ _ _ _ (hRq.drewN _) (hRC.drewN _))))
                          go_wp2
                          go_roundw
                          case rel => exact ⟨s + 1, by omega, by omega, by go_num, below_drewN hbs _⟩
                          case measure => simp [intOf]; omega
                        · obtain rfl : s = q := by omega
                          go_wp2
                          go_roundw
                          case rel => exact ⟨i + 1, fun r => if r = i then ds else D r, by omega, by go_num, fun r hr => (hD5.out r hr).below hbs (Nat.le_refl _), fun r hr hir => (if_neg (by omega)).trans (HDb.out r hr (by omega)), hrow5.out.below hbs (Nat.le_refl _), hM5.out.trans (Mid.of_below (hbs.mono (by omega))), hb5.trans (hbs.mono (by omega)), by have := hbs.size; omega⟩
                          case measure => simp [intOf]; omega
                · go_wp2
                  go_ret
                  exact ⟨rfl, hbk⟩
end Go.Proofs.YtjfpiidofbjdhaaDoor
