/-
  bank: the document's records in memory; SameRecs.
-/
import Derived.Test.YtkajlbdiofobcaaDoorBnX
import Derived.Test.YtkajlbdiofobcaaDoorUp
import Derived.Test.YtkajlbdiofobcaaDoorStep
import Derived.Deep.RegionHeld3
import Derived.Test.YtkajlbdiofobcaaDoorBnR
namespace Go.Proofs.YtkajlbdiofobcaaDoor
open Go.RowKit Go
set_option linter.unusedVariables false
set_option linter.unusedSimpArgs false
set_option maxRecDepth 100000
/-- A record of the document's, xs the model holds it. -/
structure DV where
  K : Option Addr
  kn : Nat
  kc : Nat
  V : Option Addr
  vn : Nat
  vc : Nat
  key : List UInt8
  val : List UInt8
  lives : Bool
def DV.cells (x : DV) : List Value := [.slice x.K x.kn x.kc, .slice x.V x.vn x.vc, .bool x.lives]
def DV.pl (x : DV) : RL := ⟨x.key, x.val, x.lives⟩
theorem dcells_len : ∀ l : List DV, (l.flatMap DV.cells).length = l.length * 3
  | [] => rfl
  | x :: l => by simp only [List.flatMap_cons, List.length_append, dcells_len l, List.length_cons]; simp [DV.cells]; omega
theorem flat3_at : ∀ (xs : List DV) (j : Nat) (x : DV), xs[j]? = some x → (xs.flatMap DV.cells)[j * 3]? = some (.slice x.K x.kn x.kc) ∧ (xs.flatMap DV.cells)[j * 3 + 1]? = some (.slice x.V x.vn x.vc) ∧ (xs.flatMap DV.cells)[j * 3 + 2]? = some (.bool x.lives)
  | [], _, _, h => by cases h
  | y :: ys, 0, x, h => by
    injection h with h
    subst h
    exact ⟨rfl, rfl, rfl⟩
  | y :: ys, j + 1, x, h => by
    have h2 : ys[j]? = some x := h
    obtain ⟨a, b, c⟩ := flat3_at ys j x h2
    have e : (y :: ys).flatMap DV.cells = DV.cells y ++ ys.flatMap DV.cells := rfl
    have hl : (DV.cells y).length = 3 := rfl
    rw [e]
    refine ⟨?_, ?_, ?_⟩
    · rw [List.getElem?_append_right (by omega), hl, show (j + 1) * 3 - 3 = j * 3 by omega]; exact a
    · rw [List.getElem?_append_right (by omega), hl, show (j + 1) * 3 + 1 - 3 = j * 3 + 1 by omega]; exact b
    · rw [List.getElem?_append_right (by omega), hl, show (j + 1) * 3 + 2 - 3 = j * 3 + 2 by omega]; exact c
/-- Records that can be read. -/
structure DVs (w : World) (A : Option Addr) (n : Nat) (ds : List DV) : Prop where
  len : ds.length = n
  cells : ReadR w A (ds.flatMap DV.cells)
  bytes : ∀ x ∈ ds, RB w x.K x.kn x.key ∧ RB w x.V x.vn x.val
  lim : ∀ x ∈ ds, x.kn ≤ 1000000000 ∧ x.vn ≤ 1000000000
theorem DVs.below {w w' : World} {A : Option Addr} {n : Nat} {ds : List DV} (h : DVs w A n ds) (hb : Below w.heap.size w w') : DVs w' A n ds :=
  ⟨h.len, h.cells.below hb (Nat.le_refl _), fun x hx => ⟨(h.bytes x hx).1.below hb, (h.bytes x hx).2.below hb⟩, h.lim⟩
theorem DVs.at_ {w : World} {A : Option Addr} {n : Nat} {ds : List DV} (h : DVs w A n ds) {j : Nat} (hj : j < n) : ∃ b off x, A = some ⟨b, off, none⟩ ∧ b < w.heap.size ∧ ds[j]? = some x ∧ w.cell? ⟨b, off + j * 3, none⟩ = some (.slice x.K x.kn x.kc) ∧ w.cell? ⟨b, off + j * 3 + 1, none⟩ = some (.slice x.V x.vn x.vc) ∧ w.cell? ⟨b, off + j * 3 + 2, none⟩ = some (.bool x.lives) ∧ RB w x.K x.kn x.key ∧ RB w x.V x.vn x.val ∧ x.kn ≤ 1000000000 ∧ x.vn ≤ 1000000000 := by
  have hl := h.len
  obtain ⟨x, hx⟩ : ∃ x, ds[j]? = some x := ⟨_, List.getElem?_eq_getElem (by omega)⟩
  have hm := List.mem_of_getElem? hx
  obtain ⟨e0, e1, e2⟩ := flat3_at ds j x hx
  obtain ⟨b, off, rfl, hb, hc⟩ := h.cells (by intro e; have h9 := dcells_len ds; rw [e] at h9; simp at h9; omega)
  refine ⟨b, off, x, rfl, hb, hx, hc _ _ e0, ?_, ?_, (h.bytes x hm).1, (h.bytes x hm).2, (h.lim x hm).1, (h.lim x hm).2⟩
  · rw [Nat.add_assoc]; exact hc _ _ e1
  · rw [Nat.add_assoc]; exact hc _ _ e2
/-- What SameRecs answers. -/
def SamePost (xs zs : List DV) (w : World) (e : Ending) (w' : World) : Prop := ∃ v : Bool, e = .returned (.bool v) ∧ (v = true ↔ xs.map DV.pl = zs.map DV.pl) ∧ Below w.heap.size w w'
set_option maxHeartbeats 8000000 in
theorem samerecs_any (A B : Option Addr) (n c m d : Nat) (xs zs : List DV) (w : World) (hA : DVs w A n xs) (hB : DVs w B m zs) (hn : n ≤ 1000000000) (hm : m ≤ 1000000000) :
    Calls Tryd.prog 20 #[.slice A n c, .slice B m d] w (SamePost xs zs w) := by
  have HA := Lib.hid hA
  have HB := Lib.hid hB
  clear hA hB
  by_cases hnm : ¬ n = m
  · have FIN : Hid (SamePost xs zs w (.returned (.bool false)) w) := ⟨false, rfl, by
      constructor
      · intro h; cases h
      · intro h; have h9 := congrArg List.length h; simp at h9; have := HA.out.len; have := HB.out.len; omega, Below.refl _ _⟩
    have p1 : ((n : Int) != (m : Int)) = true := by simp; omega
    clear HA HB
    go_enter Tryd.func20, Tryd.ntmps20
    go_wp2
    go_ret
    exact FIN.out
  have hnm' : n = m := Decidable.not_not.1 hnm
  clear hnm
  subst hnm'
  go_enter Tryd.func20, Tryd.ntmps20
  go_wp2_with fail
  go_loopw [5] (fun vi wl => ∃ i : Nat, vi = .int .i64 (i : Int) ∧ i ≤ n ∧ Hid ((xs.map DV.pl).take i = (zs.map DV.pl).take i ∧ Below w.heap.size w wl)) (fun vi _ => n - (intOf vi).toNat)
  case atStart => exact ⟨0, rfl, Nat.zero_le _, rfl, Below.refl _ _⟩
  case round =>
    obtain ⟨i, rfl, hi, HK⟩ := hrel
    by_cases hlt : i < n
    · have i1 : (i : Int) < (n : Int) := by omega
      have i2 : 0 ≤ (i : Int) := by omega
      have e3 : IntKind.i64.wrap ((i : Int) + 1) = (i : Int) + 1 := IntWalk.i64_in _ (by omega)
      obtain ⟨ba, oa, x, rfl, hba, hx, x0, x1, x2, hxk, hxv, lx1, lx2⟩ := HA.out.at_ hlt
      obtain ⟨bb, ob, y, rfl, hbb, hy, y0, y1, y2, hyk, hyv, ly1, ly2⟩ := HB.out.at_ hlt
      obtain ⟨xK, xkn, xkc, xV, xvn, xvc, xkey, xval, xl⟩ := x
      obtain ⟨yK, ykn, ykc, yV, yvn, yvc, ykey, yval, yl⟩ := y
      simp only at x0 x1 x2 y0 y1 y2 hxk hxv hyk hyv lx1 lx2 ly1 ly2
      have SK := Lib.hid (fun (X : Up wr) => same7_any xK yK xkn xkc ykn ykc xkey ykey X.w ((hxk.below HK.out.2).below X.b) ((hyk.below HK.out.2).below X.b) lx1 ly1)
      have SV' := Lib.hid (fun (X : Up wr) => same7_any xV yV xvn xvc yvn yvc xval yval X.w ((hxv.below HK.out.2).below X.b) ((hyv.below HK.out.2).below X.b) lx2 ly2)
      have hXA : (xs.map DV.pl)[i]? = some ⟨xkey, xval, xl⟩ := by rw [List.getElem?_map, hx]; rfl
      have hYB : (zs.map DV.pl)[i]? = some ⟨ykey, yval, yl⟩ := by rw [List.getElem?_map, hy]; rfl
      have HNE : Hid ((⟨xkey, xval, xl⟩ : RL) ≠ ⟨ykey, yval, yl⟩ → ∀ X : Up wr, SamePost xs zs w (.returned (.bool false)) X.w) := fun hne X => ⟨false, rfl, by
        constructor
        · intro h; cases h
        · intro h; rw [h, hYB] at hXA; injection hXA with hXA; exact absurd hXA.symm hne, kp_call HK.out.2 X.b⟩
      have HEQ : Hid ((⟨xkey, xval, xl⟩ : RL) = ⟨ykey, yval, yl⟩ → ∀ X : Up wr, (xs.map DV.pl).take (i + 1) = (zs.map DV.pl).take (i + 1) ∧ Below w.heap.size w X.w) := fun heq X => ⟨by
        rw [List.take_add_one, List.take_add_one, HK.out.1, hXA, hYB, heq], kp_call HK.out.2 X.b⟩
      have k0 : ∀ X : Up wr, X.w.cell? ⟨ba, oa + i * 3, none⟩ = some (.slice xK xkn xkc) := fun X => Up.cell (kp_cell HK.out.2 x0) X
      have k1 : ∀ X : Up wr, X.w.cell? ⟨ba, oa + i * 3 + 1, none⟩ = some (.slice xV xvn xvc) := fun X => Up.cell (kp_cell HK.out.2 x1) X
      have k2 : ∀ X : Up wr, X.w.cell? ⟨ba, oa + i * 3 + 2, none⟩ = some (.bool xl) := fun X => Up.cell (kp_cell HK.out.2 x2) X
      have l0 : ∀ X : Up wr, X.w.cell? ⟨bb, ob + i * 3, none⟩ = some (.slice yK ykn ykc) := fun X => Up.cell (kp_cell HK.out.2 y0) X
      have l1 : ∀ X : Up wr, X.w.cell? ⟨bb, ob + i * 3 + 1, none⟩ = some (.slice yV yvn yvc) := fun X => Up.cell (kp_cell HK.out.2 y1) X
      have l2 : ∀ X : Up wr, X.w.cell? ⟨bb, ob + i * 3 + 2, none⟩ = some (.bool yl) := fun X => Up.cell (kp_cell HK.out.2 y2) X
      clear x0 x1 x2 y0 y1 y2 hxk hxv hyk hyv lx1 lx2 ly1 ly2 hx hy hXA hYB HK HA HB hba hbb
      by_cases hl : xl = yl
      · subst hl
        by_cases hk : xkey = ykey
        · subst hk
          by_cases hv : xval = yval
          · subst hv
            rw [decide_eq_true (rfl : xkey = xkey)] at SK
            rw [decide_eq_true (rfl : xval = xval)] at SV'
            have HE := Lib.hid (HEQ.out rfl)
            clear HEQ HNE
            cases xl
            all_goals
              go_wp2_with fail
              refine wp_region_up (by kernel_rfl) (by kernel_rfl) ?_
              repeat (go_big_quiet_step (first | (go_at_call 28; with_reducible exact Up.calls (SK.out _)) | (go_at_call 28; with_reducible exact Up.calls (SV'.out _))))
              refine wpQuiet_nil ?_
              rintro _ ⟨X, rfl⟩
              go_wp2
              go_roundw
              case rel => exact ⟨i + 1, by go_num, by omega, HE.out X⟩
              case measure => simp [intOf]; omega
          · rw [decide_eq_true (rfl : xkey = xkey)] at SK
            rw [decide_eq_false hv] at SV'
            have HE := Lib.hid (HNE.out (by intro h; injection h with h1 h2 h3; exact hv h2))
            clear HEQ HNE
            cases xl
            all_goals
              go_wp2_with fail
              refine wp_region_up (by kernel_rfl) (by kernel_rfl) ?_
              repeat (go_big_quiet_step (first | (go_at_call 28; with_reducible exact Up.calls (SK.out _)) | (go_at_call 28; with_reducible exact Up.calls (SV'.out _))))
              refine wpQuiet_nil ?_
              rintro _ ⟨X, rfl⟩
              go_wp2
              go_ret
              exact HE.out X
        · rw [decide_eq_false hk] at SK
          have HE := Lib.hid (HNE.out (by intro h; injection h with h1 h2 h3; exact hk h1))
          clear HEQ HNE SV'
          cases xl
          all_goals
            go_wp2_with fail
            refine wp_region_up (by kernel_rfl) (by kernel_rfl) ?_
            repeat (go_big_quiet_step (first | (go_at_call 28; with_reducible exact Up.calls (SK.out _))))
            refine wpQuiet_nil ?_
            rintro _ ⟨X, rfl⟩
            go_wp2
            go_ret
            exact HE.out X
      · have HE := Lib.hid (HNE.out (by intro h; injection h with h1 h2 h3; exact hl h3))
        clear HEQ HNE SV' SK
        cases xl <;> cases yl
        · exact absurd rfl hl
        · go_wp2_with fail
          refine wp_region_up (by kernel_rfl) (by kernel_rfl) ?_
          repeat (go_big_quiet_step (fail))
          refine wpQuiet_nil ?_
          rintro _ ⟨X, rfl⟩
          go_wp2
          go_ret
          exact HE.out X
        · go_wp2_with fail
          refine wp_region_up (by kernel_rfl) (by kernel_rfl) ?_
          repeat (go_big_quiet_step (fail))
          refine wpQuiet_nil ?_
          rintro _ ⟨X, rfl⟩
          go_wp2
          go_ret
          exact HE.out X
        · exact absurd rfl hl
    · have i1 : ¬ (i : Int) < (n : Int) := by omega
      have FIN : Hid (SamePost xs zs w (.returned (.bool true)) wr) := by
        refine ⟨true, rfl, ⟨fun _ => ?_, fun _ => rfl⟩, HK.out.2⟩
        have h := HK.out.1
        rw [List.take_of_length_le (by have := HA.out.len; simp; omega), List.take_of_length_le (by have := HB.out.len; simp; omega)] at h
        exact h
      clear HK
      go_wp2
      go_ret
      exact FIN.out
end Go.Proofs.YtkajlbdiofobcaaDoor
namespace Go.Proofs.YtkajlbdiofobcaaDoor
open Go.RowKit Go
set_option linter.unusedVariables false
set_option linter.unusedSimpArgs false
set_option maxRecDepth 100000
theorem drec_row : RowT 34 52 3 56 (.agg #[.slice none 0 0, .slice none 0 0, .bool false]) := ⟨Tryd.underlying34, by kernel_rfl, rfl, by decide⟩
theorem own_low {w : World} {base : Nat} {e : TypeId} {k : Nat} {A : Option Addr} {n c : Nat} {vs : List Value} (h : OwnR w base e k A n c vs) {j : Nat} (hj : j < base) : blk A = none ∨ blk A ≠ some j := by
  right
  intro e
  have := (h.blk_lt e).1
  omega
/-- Records of the document's that a call owns. -/
structure DOwn (w : World) (base : Nat) (A : Option Addr) (n c : Nat) (ds : List DV) : Prop where
  row : OwnR w base 52 3 A n c (ds.flatMap DV.cells)
  own : ∀ x ∈ ds, OwnB w base x.K x.kn x.kc x.key ∧ OwnB w base x.V x.vn x.vc x.val
  lim : ∀ x ∈ ds, x.kn ≤ 1000000000 ∧ x.vn ≤ 1000000000
section
variable {w w' : World} {base : Nat} {A : Option Addr} {n c : Nat} {ds : List DV}
theorem DOwn.dvs (h : DOwn w base A n c ds) : DVs w A n ds :=
  ⟨by have h1 := h.row.len; rw [dcells_len] at h1; omega, h.row.reads, fun x hx => ⟨(h.own x hx).1.rb, (h.own x hx).2.rb⟩, h.lim⟩
theorem DOwn.below (h : DOwn w base A n c ds) (hb : Below w.heap.size w w') : DOwn w' base A n c ds :=
  ⟨h.row.below hb (Nat.le_refl _), fun x hx => ⟨(h.own x hx).1.below hb (Nat.le_refl _), (h.own x hx).2.below hb (Nat.le_refl _)⟩, h.lim⟩
theorem DOwn.grown (h : DOwn w base A n c ds) {k : Nat} (hg : w.grownBy w' (some k)) (hk : k < base) : DOwn w' base A n c ds :=
  ⟨h.row.kept hg (own_low h.row hk), fun x hx => ⟨(h.own x hx).1.kept hg (own_low (h.own x hx).1.row hk), (h.own x hx).2.kept hg (own_low (h.own x hx).2.row hk)⟩, h.lim⟩
theorem DOwn.lower (h : DOwn w base A n c ds) {base' : Nat} (hb : base' ≤ base) : DOwn w base' A n c ds :=
  ⟨h.row.lower hb, fun x hx => ⟨(h.own x hx).1.lower hb, (h.own x hx).2.lower hb⟩, h.lim⟩
theorem DOwn.nil (w : World) (base : Nat) : DOwn w base none 0 0 [] := ⟨OwnR.nil _ _ _ _, fun x hx => (by cases hx), fun x hx => (by cases hx)⟩
end
/-- A record that was handed out, plainly. -/
def SV.pl (y : SV) : RL := ⟨y.r.body.take y.r.key, y.r.body.drop y.r.key, y.r.lives⟩
theorem flat3s_at : ∀ (xs : List SV) (j : Nat) (x : SV), xs[j]? = some x → (xs.flatMap SV.cells)[j * 3]? = some (.slice x.K x.kn x.kc) ∧ (xs.flatMap SV.cells)[j * 3 + 1]? = some (.slice x.V x.vn x.vc) ∧ (xs.flatMap SV.cells)[j * 3 + 2]? = some (.bool x.r.lives)
  | [], _, _, h => by cases h
  | y :: ys, 0, x, h => by
    injection h with h
    subst h
    exact ⟨rfl, rfl, rfl⟩
  | y :: ys, j + 1, x, h => by
    have h2 : ys[j]? = some x := h
    obtain ⟨a, b, c⟩ := flat3s_at ys j x h2
    have e : (y :: ys).flatMap SV.cells = SV.cells y ++ ys.flatMap SV.cells := rfl
    have hl : (SV.cells y).length = 3 := rfl
    rw [e]
    refine ⟨?_, ?_, ?_⟩
    · rw [List.getElem?_append_right (by omega), hl, show (j + 1) * 3 - 3 = j * 3 by omega]; exact a
    · rw [List.getElem?_append_right (by omega), hl, show (j + 1) * 3 + 1 - 3 = j * 3 + 1 by omega]; exact b
    · rw [List.getElem?_append_right (by omega), hl, show (j + 1) * 3 + 2 - 3 = j * 3 + 2 by omega]; exact c
/-- The records that are left to be gone through: each has bytes of its own. -/
theorem SVs.tail {W : World} {base : Nat} {x : SV} {l : List SV} (h : SVs W base (x :: l)) : SVs W base l :=
  ⟨fun y hy => h.own y (List.mem_cons_of_mem _ hy), fun y hy => h.ne y (List.mem_cons_of_mem _ hy), (List.pairwise_cons.1 h.pw).2⟩
/-- Writing into the first one's bytes turns none of the others. -/
theorem SVs.wrote {W W' : World} {base : Nat} {x : SV} {l : List SV} (h : SVs W base (x :: l)) {k : Nat} (hk : blk x.K = some k ∨ blk x.V = some k) (hg : W.grownBy W' (some k)) : SVs W' base l := by
  have hp := (List.pairwise_cons.1 h.pw).1
  have ht := h.tail
  refine ⟨fun y hy => ⟨(ht.own y hy).1.kept hg (.inr (hp y hy k hk).1), (ht.own y hy).2.kept hg (.inr (hp y hy k hk).2)⟩, ht.ne, ht.pw⟩
/-- Where records stands. -/
structure RecSt (w : World) (base : Nat) (A : Option Addr) (n c : Nat) (ys : List SV) (wl : World) (i : Nat) (B : Option Addr) (d : Nat) (ds : List DV) : Prop where
  row : OwnR wl base 72 3 A n c (ys.flatMap SV.cells)
  rest : SVs wl base (ys.drop i)
  out : DOwn wl w.heap.size B i d ds
  pl : ds.map DV.pl = (ys.take i).map SV.pl
  bel : Below base w wl
theorem byte_over {W : World} {base : Nat} {G n c : Nat} {bs : List UInt8} (h : OwnB W base (some ⟨G, 0, none⟩) n c bs) (k : Nat) : OwnB (W.setCell ⟨G, k, none⟩ (.int .u8 85)) base (some ⟨G, 0, none⟩) n c (bs.set k 85) := h.stored k 85
/-- Where records stands behind the append of a round. -/
structure RecMid (w : World) (base : Nat) (A : Option Addr) (n c : Nat) (ys : List SV) (y : SV) (wl : World) (i : Nat) (B : Option Addr) (d : Nat) (ds : List DV) : Prop where
  row : OwnR wl base 72 3 A n c (ys.flatMap SV.cells)
  rest : SVs wl base (ys.drop (i + 1))
  K : ∃ bs, OwnB wl base y.K y.kn y.kc bs
  V : ∃ bs, OwnB wl base y.V y.vn y.vc bs
  ne : ∀ k, blk y.K = some k → blk y.V ≠ some k
  far : ∀ z ∈ ys.drop (i + 1), ∀ k, (blk y.K = some k ∨ blk y.V = some k) → blk z.K ≠ some k ∧ blk z.V ≠ some k
  lt : ∀ k, (blk y.K = some k ∨ blk y.V = some k) → base ≤ k ∧ k < w.heap.size
  out : DOwn wl w.heap.size B (i + 1) d ds
  bel : Below base w wl
section
variable {w wl : World} {base : Nat} {A : Option Addr} {n c : Nat} {ys : List SV} {y : SV} {i : Nat} {B : Option Addr} {d : Nat} {ds : List DV}
theorem RecMid.store (h : RecMid w base A n c ys y wl i B d ds) {g : Nat} (hg : blk y.K = some g ∨ blk y.V = some g) (k : Nat) (u : Value)
    (hK : ∃ bs, OwnB (wl.setCell ⟨g, k, none⟩ u) base y.K y.kn y.kc bs) (hV : ∃ bs, OwnB (wl.setCell ⟨g, k, none⟩ u) base y.V y.vn y.vc bs) (hne : blk A ≠ some g) : RecMid w base A n c ys y (wl.setCell ⟨g, k, none⟩ u) i B d ds := by
  have hgr := grown_one wl g k u
  obtain ⟨h1, h2⟩ := h.lt g hg
  refine ⟨h.row.kept hgr (.inr hne), ?_, hK, hV, h.ne, h.far, h.lt, h.out.grown hgr h2, h.bel.setCell h1 _⟩
  exact ⟨fun z hz => ⟨(h.rest.own z hz).1.kept hgr (.inr (h.far z hz g hg).1), (h.rest.own z hz).2.kept hgr (.inr (h.far z hz g hg).2)⟩, h.rest.ne, h.rest.pw⟩
theorem RecMid.storeK (h : RecMid w base A n c ys y wl i B d ds) {g : Nat} (hg : y.K = some ⟨g, 0, none⟩) (k : Nat) : RecMid w base A n c ys y (wl.setCell ⟨g, k, none⟩ (.int .u8 85)) i B d ds := by
  have hb : blk y.K = some g := by rw [hg]; rfl
  obtain ⟨ks, hk⟩ := h.K
  obtain ⟨vs, hv⟩ := h.V
  have hne : blk A ≠ some g := fun e => by
    rcases OwnR.ne h.row hk.row (by decide) with h9 | h9
    · rw [h9] at e; cases e
    · exact h9 (e.trans hb.symm)
  refine h.store (.inl hb) k _ ?_ ⟨vs, hv.kept (grown_one _ _ _ _) (.inr (h.ne g hb))⟩ hne
  rw [hg] at hk ⊢
  exact ⟨_, byte_over hk k⟩
theorem RecMid.storeV (h : RecMid w base A n c ys y wl i B d ds) {g : Nat} (hg : y.V = some ⟨g, 0, none⟩) (k : Nat) : RecMid w base A n c ys y (wl.setCell ⟨g, k, none⟩ (.int .u8 85)) i B d ds := by
  have hb : blk y.V = some g := by rw [hg]; rfl
  obtain ⟨ks, hk⟩ := h.K
  obtain ⟨vs, hv⟩ := h.V
  have hne : blk A ≠ some g := fun e => by
    rcases OwnR.ne h.row hv.row (by decide) with h9 | h9
    · rw [h9] at e; cases e
    · exact h9 (e.trans hb.symm)
  refine h.store (.inr hb) k _ ⟨ks, hk.kept (grown_one _ _ _ _) (.inr (fun e => h.ne g e hb))⟩ ?_ hne
  rw [hg] at hv ⊢
  exact ⟨_, byte_over hv k⟩
theorem byte_at {W : World} {g m c : Nat} {bs : List UInt8} (h : OwnB W base (some ⟨g, 0, none⟩) m c bs) (k : Nat) (hk : k < m) : (∃ q : UInt8, W.cell? ⟨g, k, none⟩ = some (.int .u8 (q.toNat : Int))) ∧ W.frozen? ⟨g, k, none⟩ = false := by
  have hl := h.len
  exact ⟨⟨_, h.cellAt k _ (List.getElem?_eq_getElem (by omega))⟩, h.free k⟩
end
/-- What records answers. -/
def RecsPost (w : World) (base : Nat) (ys : List SV) (n : Nat) (e : Ending) (w' : World) : Prop := ∃ B d ds, e = .returned (.slice B n d) ∧ DOwn w' w.heap.size B n d ds ∧ ds.map DV.pl = ys.map SV.pl ∧ Below base w w'
theorem gr_refl (w : World) (row : Option Nat) : w.grownBy w row := grown_of_below (Below.refl w.heap.size w) (Nat.le_refl _) row
theorem gr_drew {a w : World} {row : Option Nat} (h : a.grownBy w row) : a.grownBy w.drew row := grown_tr h (grown_of_below (kp_drew (Below.refl _ _)) (Nat.le_refl _) row)
theorem gr_alloc {a w : World} {row : Option Nat} (h : a.grownBy w row) (o : Obj) : a.grownBy (w.alloc o) row := grown_tr h (grown_of_below (kp_alloc (Below.refl _ _) o) (Nat.le_refl _) row)
theorem gr_call {a w w' : World} {row : Option Nat} (h : a.grownBy w row) (hb : Below w.heap.size w w') : a.grownBy w' row := grown_tr h (grown_of_below hb (Nat.le_refl _) row)
theorem gr_cell {a w : World} {row : Option Nat} (h : a.grownBy w row) {G j : Nat} {u : Value} (hc : a.cell? ⟨G, j, none⟩ = some u) (hne : row ≠ some G) : w.cell? ⟨G, j, none⟩ = some u := by
  rw [World.cell?_of_block (h.block G (World.block_lt_of_cell? a _ hc) (fun e => hne e.symm))]; exact hc
set_option maxHeartbeats 16000000 in
theorem recs8_any (base : Nat) (A : Option Addr) (n c : Nat) (ys : List SV) (w : World) (hR : OwnR w base 72 3 A n c (ys.flatMap SV.cells)) (hS : SVs w base ys) (hbase : base ≤ w.heap.size) (hn : n ≤ 1000000) (hl : ∀ y ∈ ys, y.kn ≤ 1000000000 ∧ y.vn ≤ 1000000000) :
    Calls Tryd.prog 33 #[.slice A n c] w (RecsPost w base ys n) := by
  have hlen : ys.length = n := by have h1 := hR.len; rw [cells_len3] at h1; omega
  have HL := Lib.hid hl
  have HLT : Hid (∀ y ∈ ys, ∀ k, (blk y.K = some k ∨ blk y.V = some k) → base ≤ k ∧ k < w.heap.size) := fun y hy k hk => by
    rcases hk with hk | hk
    · exact (hS.own y hy).1.blk_lt hk
    · exact (hS.own y hy).2.blk_lt hk
  have HLEN := Lib.hid hlen
  have ST0 : Hid (RecSt w base A n c ys w 0 none 0 []) := ⟨hR, by simpa using hS, DOwn.nil _ _, rfl, Below.refl _ _⟩
  have HBS := Lib.hid hbase
  clear hR hS hl hlen hbase
  go_enter Tryd.func33, Tryd.ntmps33
  go_wp2_with fail
  go_loopw [3, 4] (fun v vi wl => ∃ (i : Nat) (B : Option Addr) (d : Nat) (ds : List DV), v = .slice B i d ∧ vi = .int .i64 (i : Int) ∧ i ≤ n ∧ Hid (RecSt w base A n c ys wl i B d ds)) (fun _ vi _ => n - (intOf vi).toNat)
  case atStart => exact ⟨0, none, 0, [], rfl, rfl, Nat.zero_le _, ST0⟩
  case round =>
    obtain ⟨i, B, d, ds, rfl, rfl, hi, HST⟩ := hrel
    clear ST0
    by_cases hlt : i < n
    · have i1 : (i : Int) < (n : Int) := by omega
      have i0 : (0 : Int) ≤ (i : Int) := by omega
      have e9 : IntKind.i64.wrap ((i : Int) + 1) = (i : Int) + 1 := IntWalk.i64_in _ (by omega)
      obtain ⟨y, hy⟩ : ∃ y, ys[i]? = some y := ⟨_, List.getElem?_eq_getElem (by rw [HLEN.out]; exact hlt)⟩
      have hym := List.mem_of_getElem? hy
      have hdrop : ys.drop i = y :: ys.drop (i + 1) := by
        obtain ⟨h1, h2⟩ := List.getElem?_eq_some_iff.1 hy
        rw [List.drop_eq_getElem_cons h1, h2]
      have hrest := HST.out.rest
      rw [hdrop] at hrest
      obtain ⟨oK, oV⟩ := hrest.own y List.mem_cons_self
      have hneKV := hrest.ne y List.mem_cons_self
      obtain ⟨lk, lv⟩ := HL.out y hym
      obtain ⟨t0, t1, t2⟩ := flat3s_at ys i y hy
      have hrow := HST.out.row
      obtain ⟨G, rfl, hg1, hg2⟩ := hrow.shape (by have := hrow.cap.1; omega)
      have c0 : wr.cell? ⟨G, i * 3, none⟩ = some (.slice y.K y.kn y.kc) := by rw [World.ownsRow.cellAt hrow (i * 3) (by omega)]; exact t0
      have c1 : wr.cell? ⟨G, i * 3 + 1, none⟩ = some (.slice y.V y.vn y.vc) := by rw [World.ownsRow.cellAt hrow (i * 3 + 1) (by omega)]; exact t1
      have c2 : wr.cell? ⟨G, i * 3 + 2, none⟩ = some (.bool y.r.lives) := by rw [World.ownsRow.cellAt hrow (i * 3 + 2) (by omega)]; exact t2
      have hkl : (y.r.body.take y.r.key).length = y.kn := oK.len
      have hvl : (y.r.body.drop y.r.key).length = y.vn := oV.len
      obtain ⟨ky, hky⟩ : ∃ ky, y.r.body.take y.r.key = ky := ⟨_, rfl⟩
      obtain ⟨vy, hvy⟩ : ∃ vy, y.r.body.drop y.r.key = vy := ⟨_, rfl⟩
      rw [hky] at oK hkl
      rw [hvy] at oV hvl
      have hneB : Hid (blk B ≠ some G) := fun e => by
        rcases OwnR.ne hrow HST.out.out.row (by decide) with h9 | h9
        · cases h9
        · exact h9 e.symm
      have neK : Hid (blk y.K = none ∨ blk y.K ≠ blk B) := OwnR.ne oK.row HST.out.out.row (by decide)
      have neV : Hid (blk y.V = none ∨ blk y.V ≠ blk B) := OwnR.ne oV.row HST.out.out.row (by decide)
      have TK := Lib.hid (fun W (hb : wr.grownBy W (blk B)) => twin8_any y.K y.kn y.kc ky W (oK.kept hb neK.out).rb lk)
      have TV := Lib.hid (fun W (hb : wr.grownBy W (blk B)) => twin8_any y.V y.vn y.vc vy W (oV.kept hb neV.out).rb lv)
      have KEEP : Hid (∀ W, wr.grownBy W (blk B) → (W.cell? ⟨G, i * 3, none⟩ = some (.slice y.K y.kn y.kc) ∧ W.cell? ⟨G, i * 3 + 1, none⟩ = some (.slice y.V y.vn y.vc) ∧ W.cell? ⟨G, i * 3 + 2, none⟩ = some (.bool y.r.lives)) ∧ wr.grownBy W (blk B)) := fun W hb => ⟨⟨gr_cell hb c0 hneB.out, gr_cell hb c1 hneB.out, gr_cell hb c2 hneB.out⟩, hb⟩
      have HYL : Hid (y.kn ≤ 1000000000 ∧ y.vn ≤ 1000000000) := ⟨lk, lv⟩
      have HYLT := Lib.hid (HLT.out y hym)
      have HTT : Hid (((ys.flatMap SV.cells)[i * 3]? = some (.slice y.K y.kn y.kc)) ∧ (ys.flatMap SV.cells)[i * 3 + 1]? = some (.slice y.V y.vn y.vc)) := ⟨t0, t1⟩
      have HOK := Lib.hid oK
      have HOV := Lib.hid oV
      have HNE := Lib.hid hneKV
      have HRS := Lib.hid hrest
      have HKL := Lib.hid hkl
      have HVL := Lib.hid hvl
      have HOUT := Lib.hid HST.out.out
      have HPL : Hid (ds.map DV.pl ++ [⟨ky, vy, y.r.lives⟩] = (ys.take (i + 1)).map SV.pl) := by
        rw [List.take_add_one, List.map_append, HST.out.pl, hy, ← hky, ← hvy]; rfl
      have HBEL := Lib.hid HST.out.bel
      have HROW := Lib.hid hrow
      have hmax : i + 1 ≤ maxLen := by unfold maxLen; omega
      have B0 := Lib.hid (gr_refl wr (blk B))
      have H1c : Hid (∀ (K6 V6 : Option Addr) (nk ck nv c' : Nat), ∀ u ∈ [(.slice K6 nk ck : Value), .slice V6 nv c', .bool y.r.lives], u.oneCell' = true) := by
        intro K6 V6 nk ck nv c' u hu; simp at hu; rcases hu with rfl | rfl | rfl <;> rfl
      have hsz0 : Hid (w.heap.size ≤ wr.heap.size) := HST.out.bel.size
      clear HST hy hym hdrop hrest oK oV hneKV lk lv t0 t1 t2 hrow hkl hvl hky hvy
      go_wp2_with fail
      go_region_held3 (fun W => (W.cell? ⟨G, i * 3, none⟩ = some (.slice y.K y.kn y.kc) ∧ W.cell? ⟨G, i * 3 + 1, none⟩ = some (.slice y.V y.vn y.vc) ∧ W.cell? ⟨G, i * 3 + 2, none⟩ = some (.bool y.r.lives)) ∧ wr.grownBy W (blk B))
        ((apply KEEP.out; repeat (with_reducible (first | assumption | exact B0.out | refine gr_drew ?_ | refine gr_alloc ?_ _ | refine gr_call ?_ (by assumption)))))
        (first
          | (go_at_call 18; (with_reducible refine (TK.out _ (by (go_split_ands; assumption))).mono ?_); (rintro e X1 ⟨A1, n1, c1', rfl, ho1, hb1⟩; have HB1 : Hid (Below wr.heap.size wr X1) := (by (first | exact hb1 | exact (kp_drew (Below.refl _ _)).trans hb1)); have H1 : Hid (wr.grownBy X1 (blk B)) := grown_of_below HB1.out (Nat.le_refl _) _; have HO1 : Hid (OwnB X1 wr.heap.size A1 n1 c1' ky) := (by (go_split_ands; exact ho1.lower (World.grownBy.size (by assumption)))); clear ho1 TK))
          | (go_at_call 18; (with_reducible refine (TV.out _ (by (go_split_ands; assumption))).mono ?_); (rintro e X2 ⟨A2, n2, c2', rfl, ho2, hb2⟩; have H2 : Hid (Below X1.heap.size X1 X2) := (by (first | exact hb2 | exact (kp_drew (Below.refl _ _)).trans hb2)); have H12 : Hid (wr.grownBy X2 (blk B)) := gr_call H1.out H2.out; have HB2 : Hid (Below wr.heap.size wr X2) := kp_call HB1.out H2.out; have HO2 : Hid (OwnB X2 wr.heap.size A2 n2 c2' vy) := (by (first | exact ho2.lower (World.grownBy.size H1.out))); clear ho2 TV))
          | (refine step_appR drec_row (by rfl) _ _ (by rfl) w.heap.size B i d _ (by rfl) ((HOUT.out.below HB2.out).row.alloc _) ⟨X2.heap.size, 0, none⟩ 1 1 [.slice A1 n1 c1', .slice A2 n2 c2', .bool y.r.lives] (by rfl) (by rfl) (cells_lit _ X2.heap.size #[.slice A1 n1 c1', .slice A2 n2 c2', .bool y.r.lives] 52 (0, 0) (heap_alloc_new _ _)) (H1c.out A1 A2 n1 c1' n2 c2') (by omega) hmax (by omega) (by have h1 := hsz0.out; have h2 := HB2.out.size; simp; omega) ?_; intro g3 c3 w3 ho3 hg3 hat3; have hG3 : wr.grownBy w3 (blk B) := grown_tr (gr_alloc H12.out _) hg3))
      have MID : Hid (RecMid w base (some ⟨G, 0, none⟩) n c ys y w3 i (some ⟨g3, 0, none⟩) c3 (ds ++ [⟨A1, n1, c1', A2, n2, c2', ky, vy, y.r.lives⟩])) := by
        have hOUT := HOUT.out.below HB2.out
        have hal : Below X2.heap.size X2 (X2.alloc (.cells #[.slice A1 n1 c1', .slice A2 n2 c2', .bool y.r.lives] 52)) := kp_alloc (Below.refl _ _) _
        have hOA := hOUT.below hal
        have hbe : Below base w (X2.alloc (.cells #[.slice A1 n1 c1', .slice A2 n2 c2', .bool y.r.lives] 52)) := (HBEL.out.trans (HB2.out.mono (Nat.le_trans HBS.out HBEL.out.size))).trans (hal.mono (by have := HBEL.out.size; have := HB2.out.size; have := HBS.out; omega))
        have o1 : OwnB (X2.alloc (.cells #[.slice A1 n1 c1', .slice A2 n2 c2', .bool y.r.lives] 52)) wr.heap.size A1 n1 c1' ky := (HO1.out.below H2.out (Nat.le_refl _)).alloc _
        have o2 : OwnB (X2.alloc (.cells #[.slice A1 n1 c1', .slice A2 n2 c2', .bool y.r.lives] 52)) wr.heap.size A2 n2 c2' vy := HO2.out.alloc _
        have oK := (HOK.out.below HB2.out (Nat.le_refl _)).alloc (.cells #[.slice A1 n1 c1', .slice A2 n2 c2', .bool y.r.lives] 52)
        have oV := (HOV.out.below HB2.out (Nat.le_refl _)).alloc (.cells #[.slice A1 n1 c1', .slice A2 n2 c2', .bool y.r.lives] 52)
        have ne8 : ∀ {base' : Nat} {A' : Option Addr} {n' c' : Nat} {bs : List UInt8}, OwnB (X2.alloc (.cells #[.slice A1 n1 c1', .slice A2 n2 c2', .bool y.r.lives] 52)) base' A' n' c' bs → blk A' = none ∨ blk A' ≠ blk B := fun h => OwnR.ne h.row hOA.row (by decide)
        have hk1 : n1 = y.kn := HO1.out.len.symm.trans HKL.out
        have hk2 : n2 = y.vn := HO2.out.len.symm.trans HVL.out
        have hSV := HRS.out
        have hsvt := hSV.tail
        refine ⟨?_, ?_, ⟨_, oK.kept hg3 (ne8 oK)⟩, ⟨_, oV.kept hg3 (ne8 oV)⟩, HNE.out, fun z hz k hk => ?_, HYLT.out, ?_, ?_⟩
        · have h1 := (HROW.out.below HB2.out (Nat.le_refl _)).alloc (.cells #[.slice A1 n1 c1', .slice A2 n2 c2', .bool y.r.lives] 52)
          exact h1.kept hg3 (OwnR.ne h1 hOA.row (by decide))
        · refine ⟨fun z hz => ?_, hsvt.ne, hsvt.pw⟩
          have z1 := ((hsvt.own z hz).1.below HB2.out (Nat.le_refl _)).alloc (.cells #[.slice A1 n1 c1', .slice A2 n2 c2', .bool y.r.lives] 52)
          have z2 := ((hsvt.own z hz).2.below HB2.out (Nat.le_refl _)).alloc (.cells #[.slice A1 n1 c1', .slice A2 n2 c2', .bool y.r.lives] 52)
          exact ⟨z1.kept hg3 (ne8 z1), z2.kept hg3 (ne8 z2)⟩
        · exact (List.pairwise_cons.1 hSV.pw).1 z hz k hk
        · refine ⟨?_, fun x hx => ?_, fun x hx => ?_⟩
          · rw [List.flatMap_append]; simpa [DV.cells] using ho3
          · rcases List.mem_append.1 hx with hx | hx
            · exact ⟨(hOA.own x hx).1.kept hg3 (ne8 (hOA.own x hx).1), (hOA.own x hx).2.kept hg3 (ne8 (hOA.own x hx).2)⟩
            · rw [List.mem_singleton.1 hx]
              exact ⟨(o1.kept hg3 (ne8 o1)).lower hsz0.out, (o2.kept hg3 (ne8 o2)).lower hsz0.out⟩
          · rcases List.mem_append.1 hx with hx | hx
            · exact hOA.lim x hx
            · rw [List.mem_singleton.1 hx, hk1, hk2]
              exact HYL.out
        · exact hbe.grown hg3 (by have := HBEL.out.size; have := HB2.out.size; have := HBS.out; simp; omega) (fun g hg => by have h9 := (hOA.row.blk_lt hg).1; have := HBS.out; omega)
      have HPN : Hid ((ds ++ [(⟨A1, n1, c1', A2, n2, c2', ky, vy, y.r.lives⟩ : DV)]).map DV.pl = (ys.take (i + 1)).map SV.pl) := by
        rw [← HPL.out, List.map_append]; rfl
      obtain ⟨dn, hdn⟩ : ∃ dn, ds ++ [(⟨A1, n1, c1', A2, n2, c2', ky, vy, y.r.lives⟩ : DV)] = dn := ⟨_, rfl⟩
      rw [hdn] at MID HPN
      clear hdn ho3 hg3 hat3 hG3 HO1 HO2 H1 H2 H12 HB1 HB2 HOK HOV HNE HRS HKL HVL HOUT HPL HBEL HROW hmax B0 H1c KEEP neK neV hneB c0 c1 c2 hsz0
      go_wp2_with fail
      go_loopw [5] (fun v5 wl => ∃ k : Nat, v5 = .int .i64 (k : Int) ∧ k ≤ y.kn ∧ Hid (RecMid w base (some ⟨G, 0, none⟩) n c ys y wl i (some ⟨g3, 0, none⟩) c3 dn)) (fun v5 _ => y.kn - (intOf v5).toNat)
      case atStart => exact ⟨0, rfl, Nat.zero_le _, MID⟩
      case round =>
        obtain ⟨k, rfl, hk, HM⟩ := hrel
        clear MID
        have c0 : wr.cell? ⟨G, i * 3, none⟩ = some (.slice y.K y.kn y.kc) := by rw [World.ownsRow.cellAt HM.out.row (i * 3) (by omega)]; exact HTT.out.1
        by_cases hk2 : k < y.kn
        · have j1 : (k : Int) < (y.kn : Int) := by omega
          have j0 : (0 : Int) ≤ (k : Int) := by omega
          have e8 : IntKind.i64.wrap ((k : Int) + 1) = (k : Int) + 1 := IntWalk.i64_in _ (by have := HYL.out; omega)
          obtain ⟨ks, oK⟩ := HM.out.K
          obtain ⟨gK, hgK, _, _⟩ := oK.shape (by have := oK.cap.1; omega)
          rw [hgK] at c0 oK
          obtain ⟨⟨q, cq⟩, fq⟩ := byte_at oK k hk2
          have NXT : Hid (RecMid w base (some ⟨G, 0, none⟩) n c ys y (wr.setCell ⟨gK, k, none⟩ (.int .u8 85)) i (some ⟨g3, 0, none⟩) c3 dn) := HM.out.storeK hgK k
          clear HM oK
          go_wp2_with fail
          go_roundw
          case rel => exact ⟨k + 1, by go_num, by omega, NXT⟩
          case measure => simp [intOf]; omega
        · have j1 : ¬ (k : Int) < (y.kn : Int) := by omega
          have HM0 := Lib.hid HM.out
          clear HM
          go_wp2_with fail
          clear c0
          go_loopw [6] (fun v6 wl => ∃ k : Nat, v6 = .int .i64 (k : Int) ∧ k ≤ y.vn ∧ Hid (RecMid w base (some ⟨G, 0, none⟩) n c ys y wl i (some ⟨g3, 0, none⟩) c3 dn)) (fun v6 _ => y.vn - (intOf v6).toNat)
          case atStart => exact ⟨0, rfl, Nat.zero_le _, HM0⟩
          case round =>
            obtain ⟨k, rfl, hk, HM⟩ := hrel
            clear HM0
            have c0 : wr.cell? ⟨G, i * 3 + 1, none⟩ = some (.slice y.V y.vn y.vc) := by rw [World.ownsRow.cellAt HM.out.row (i * 3 + 1) (by omega)]; exact HTT.out.2
            by_cases hk2 : k < y.vn
            · have j1 : (k : Int) < (y.vn : Int) := by omega
              have j0 : (0 : Int) ≤ (k : Int) := by omega
              have e8 : IntKind.i64.wrap ((k : Int) + 1) = (k : Int) + 1 := IntWalk.i64_in _ (by have := HYL.out; omega)
              obtain ⟨ks, oK⟩ := HM.out.V
              obtain ⟨gK, hgK, _, _⟩ := oK.shape (by have := oK.cap.1; omega)
              rw [hgK] at c0 oK
              obtain ⟨⟨q, cq⟩, fq⟩ := byte_at oK k hk2
              have NXT : Hid (RecMid w base (some ⟨G, 0, none⟩) n c ys y (wr.setCell ⟨gK, k, none⟩ (.int .u8 85)) i (some ⟨g3, 0, none⟩) c3 dn) := HM.out.storeV hgK k
              clear HM oK
              go_wp2_with fail
              go_roundw
              case rel => exact ⟨k + 1, by go_num, by omega, NXT⟩
              case measure => simp [intOf]; omega
            · have j1 : ¬ (k : Int) < (y.vn : Int) := by omega
              go_wp2_with fail
              go_roundw
              case rel => exact ⟨i + 1, _, _, dn, rfl, by go_num, by omega, ⟨HM.out.row, HM.out.rest, HM.out.out, HPN.out, HM.out.bel⟩⟩
              case measure => simp [intOf]; omega
    · have i1 : ¬ (i : Int) < (n : Int) := by omega
      have hin : i = n := by omega
      subst hin
      have FIN : Hid (RecsPost w base ys i (.returned (.slice B i d)) wr) := ⟨B, d, ds, rfl, HST.out.out, by
        have h9 := HST.out.pl
        rw [List.take_of_length_le (by rw [HLEN.out]; exact Nat.le_refl _)] at h9
        exact h9, HST.out.bel⟩
      clear HST
      go_wp2
      go_ret
      exact FIN.out
end Go.Proofs.YtkajlbdiofobcaaDoor
namespace Go.Proofs.YtkajlbdiofobcaaDoor
open Go.RowKit Go
set_option linter.unusedVariables false
set_option linter.unusedSimpArgs false
set_option maxRecDepth 100000
/-- A record that was read, plainly. -/
def RD.pl (r : RD) : RL := ⟨r.body.take r.key, r.body.drop r.key, r.lives⟩
theorem rd_pl (r : RL) : r.rd.pl = r := by
  obtain ⟨k, v, l⟩ := r
  unfold RL.rd RD.pl
  simp
theorem placed_snd : ∀ (rs : List RL) (p : Nat), (placed p rs).map Prod.snd = rs.map RL.rd
  | [], p => rfl
  | r :: rs, p => by simp [placed, placed_snd rs]
theorem map_rd_pl : ∀ rs : List RL, (rs.map RL.rd).map RD.pl = rs
  | [] => rfl
  | r :: rs => by simp [rd_pl, map_rd_pl rs]
/-- What look answers of a bank that was laid. -/
def LookIs (w : World) (rs : List RL) (wh : Bool) (e : Ending) (w' : World) : Prop := ∃ B d ds, e = .returned (.tuple #[.slice B rs.length d, .bool wh, .bool true]) ∧ ds.map DV.pl = rs ∧ DOwn w' w.heap.size B rs.length d ds ∧ Below w.heap.size w w'
set_option maxHeartbeats 4000000 in
theorem look_any {w : World} {base b g a c F C : Nat} {S : FS} (ht : Tabs w) (hK : BK w base b g a c S F C) (hS : S.off = false) (h rest : List UInt8) (rs : List RL) (hX : S.bank F C = h ++ layAll rs ++ rest) (hh : h.length = 16) (hr : ∀ r ∈ rs, r.ok) (hq : recQ rest = none) (hn : rs.length ≤ 1000) (wh : Bool) (hwh : wholeB (h ++ layAll rs ++ rest) (16 + (layAll rs).length) = wh) :
    Calls Tryd.prog 15 #[.pointer (some ⟨b, 0, none⟩)] w (LookIs w rs wh) := by
  have SC := Lib.hid (scan_any ht hK hS)
  rw [hX] at SC
  have HSC := Lib.hid (scan_laid rs h rest hh hr hq)
  have HR := Lib.hid hr
  have HWH := Lib.hid hwh
  clear ht hK hS hX hh hr hq hwh
  go_enter Tryd.func15, Tryd.ntmps15
  go_wp2_with fail
  refine SC.out.mono ?_
  rintro e w1 ⟨A, n, cc, ys, l, q, rfl, hs, hm, ho, hv, hb⟩
  obtain ⟨rfl, rfl⟩ := scan_one hs HSC.out
  rw [placed_snd] at hm
  have hys : ys.length = rs.length := by have := congrArg List.length hm; simpa using this
  have hnn : n = rs.length := by have h1 := ho.len; rw [cells_len3] at h1; omega
  have hlim : ∀ y ∈ ys, y.kn ≤ 1000000000 ∧ y.vn ≤ 1000000000 := fun y hy => by
    have h1 : y.r ∈ ys.map SV.r := List.mem_map.2 ⟨y, hy, rfl⟩
    rw [hm] at h1
    obtain ⟨r, hr, hre⟩ := List.mem_map.1 h1
    obtain ⟨k1, k2, v2⟩ := HR.out r hr
    have e1 := (hv.own y hy).1.len
    have e2 := (hv.own y hy).2.len
    rw [← hre] at e1 e2
    simp [RL.rd] at e1 e2
    omega
  have RC := Lib.hid (recs8_any w.heap.size A n cc ys w1 ho hv hb.size (by omega) hlim)
  have HPL : Hid (ys.map SV.pl = rs) := by
    have h1 : ys.map SV.pl = (ys.map SV.r).map RD.pl := by rw [List.map_map]; rfl
    show ys.map SV.pl = rs
    rw [h1, hm, map_rd_pl]
  have HB := Lib.hid hb
  rw [HWH.out]
  clear SC hs hm ho hv hb hlim hys HR HSC
  subst hnn
  go_wp2_with fail
  refine RC.out.mono ?_
  rintro e w2 ⟨B, d, ds, rfl, hD, hpl, hb2⟩
  have FIN : Hid (LookIs w rs wh (.returned (.tuple #[.slice B rs.length d, .bool wh, .bool true])) w2) := ⟨B, d, ds, rfl, by rw [hpl, HPL.out], hD.lower HB.out.size, HB.out.trans hb2⟩
  clear RC hD hpl hb2
  go_wp2
  go_ret3
  exact FIN.out
/-- What Add comes to on a bank that was laid, while the power stays. -/
theorem add_laid (F C : Nat) (S : FS) (A h B : List UInt8) (rs : List RL) (k : Nat) (key val : List UInt8) (T : FS) (r : Int) (h2 : S.left = 0) (h3 : S.bs = A ++ bankL h rs k ++ B) (h4 : A.length = F * S.s) (h5 : (bankL h rs k).length = C * S.s) (hh : h.length = 16) (hr : ∀ r ∈ rs, r.ok) (ha : AddIs S F C key val T r) :
    (¬ (1 ≤ key.length ∧ key.length ≤ 255 ∧ val.length ≤ 65536) ∧ T = S ∧ r = 1) ∨
    ((1 ≤ key.length ∧ key.length ≤ 255 ∧ val.length ≤ 65536) ∧ k < 12 + key.length + val.length ∧ T = S ∧ r = 5) ∨
    ((1 ≤ key.length ∧ key.length ≤ 255 ∧ val.length ≤ 65536) ∧ 12 + key.length + val.length ≤ k ∧ r = 0 ∧ T = { S with wr := S.wr + (13 + key.length + val.length), bs := A ++ bankL h (rs ++ [⟨key, val, true⟩]) (k - (12 + key.length + val.length)) ++ B }) := by
  by_cases hn : 1 ≤ key.length ∧ key.length ≤ 255 ∧ val.length ≤ 65536
  · rcases Nat.lt_or_ge k (12 + key.length + val.length) with hk | hk
    · right; left
      have hb := bank_of h3 h4 h5
      unfold AddIs at ha
      rw [if_pos hn, hb] at ha
      obtain ⟨l, q, hs, hif⟩ := ha
      obtain ⟨_, rfl⟩ := scan_one hs (scan_bankL h rs k hh hr)
      rw [whole_laid h rs k hh, if_neg (by decide), if_pos (by rw [← h5, bankL_len, hh]; omega)] at hif
      exact ⟨hn, hk, hif.1, hif.2⟩
    · right; right
      obtain ⟨e1, e2⟩ := add_calm F C S A h B rs k key val T r h2 h3 h4 h5 hh hr hn hk ha
      exact ⟨hn, hk, e1, e2⟩
  · left
    unfold AddIs at ha
    rw [if_neg hn] at ha
    exact ⟨hn, ha.1, ha.2⟩
/-- A bank on a new flash, formatted and ready. -/
theorem begin_calm (gen F C n s : Nat) (h6 : 16 ≤ C * s) (hFC : F + C ≤ n) : ∃ S1 S2 : FS, fmtQ gen F C (newS n s) = (S1, 0) ∧ progR [254] (F * S1.s + 12) S1 = (S2, 0) ∧ S1.wr ≤ C + 100 ∧ S2.wr ≤ C + 100 ∧ S2.n = n ∧ S2.s = s ∧ S2.off = false ∧ S2.left = 0 ∧ S2.bs = List.replicate (F * s) 255 ++ bankL (headG gen ++ [254, 255, 255, 255]) [] (C * s - 16) ++ List.replicate ((n - F - C) * s) 255 := by
  have hb : (newS n s).bs = List.replicate (F * s) 255 ++ List.replicate (C * s) 255 ++ List.replicate ((n - F - C) * s) 255 := by
    unfold newS
    simp only [List.replicate_append_replicate]
    rw [← Nat.add_mul, ← Nat.add_mul, show F + C + (n - F - C) = n by omega]
  have h1 := fmt_calm gen F C (newS n s) _ _ _ rfl rfl hb (by simp [newS]) (by simp [newS]) (by simpa [newS] using h6)
  refine ⟨_, _, h1, ready_calm gen F _ _ _ [] (C * s - 16) rfl rfl rfl (by simp [newS]), ?_, ?_, rfl, rfl, rfl, rfl, rfl⟩
  · simp [newS]
  · simp [newS]
section
variable {base b g a c F C : Nat} {S : FS} {w : World}
/-- Add, of any lengths, with power. -/
theorem add_any8 {v : World} (hv : Tabs v) (hvb : v.heap.size ≤ base) (hvw : Below v.heap.size v w) (hK : BK w base b g a c S F C) (hS : S.off = false) (A B : Option Addr) (n ca m cb : Nat) (key val : List UInt8) (hA : RB w A n key) (hB : RB w B m val)
    (hAn : key ≠ [] → ∀ d, A = some d → d.block ≠ g ∧ d.block ≠ a) (hBn : val ≠ [] → ∀ d, B = some d → d.block ≠ g ∧ d.block ≠ a) (hw : S.wr < 4611686018426387904) :
    Calls Tryd.prog 17 #[.pointer (some ⟨b, 0, none⟩), .slice A n ca, .slice B m cb] w (AddPost w base b g a c S F C key val) := by
  by_cases hfit : 1 ≤ n ∧ n ≤ 255 ∧ m ≤ 65536
  · exact addfit_yes hv hvb hvw hK hS A B n ca m cb key val hA hB hAn hBn hw hfit
  · exact addfit_no hK A B n ca m cb key val hA.1 hB.1 hfit
end
end Go.Proofs.YtkajlbdiofobcaaDoor
namespace Go.Proofs.YtkajlbdiofobcaaDoor
open Go.RowKit Go
set_option linter.unusedVariables false
set_option linter.unusedSimpArgs false
set_option maxRecDepth 100000
theorem twin8_big (A : Option Addr) (n c : Nat) (bs : List UInt8) (w : World) (h : RB w A n bs) (hn : n ≤ 140737488351232) :
    Calls Tryd.prog 18 #[.slice A n c] w (Fresh w bs) := by
  go_enter Tryd.func18, Tryd.ntmps18
  go_wp2_with (at_builtin; refine wpList_apn _ _ rfl rfl rfl w.heap.size (some ⟨w.heap.size, 0, none⟩) 0 0 [] rfl (own_nil w) A n c _ rfl (h.alloc _) (by omega) (by simp) ?_)
  intro A' c' w' hown hg
  go_wp2
  go_ret
  exact ⟨A', _, c', rfl, by simpa using hown, ((Below.refl _ _).alloc (Nat.le_refl _) _).grown hg (by simp) (by intro k hk; cases hk; exact Nat.le_refl _)⟩
theorem wAll_mem {H : Type} {P : Program} {e : TypeId} : ∀ {l : List (DataW H)} {d : DataW H}, d ∈ l → ∀ z ∈ d.weights P e, z ∈ DataW.weightsAll P e l
  | x :: l, d, h, z, hz => by
    simp only [DataW.weightsAll, List.mem_append]
    rcases List.mem_cons.1 h with h | h
    · subst h; exact .inl hz
    · exact .inr (wAll_mem h z hz)
section
open Go.ChangeShapes Go.WideShapes Go.ChangeAt Go.Deep
theorem bs_reach {H : Type} {enc : TypeId × Value → H} {W : World} {n m k : Nat} {A : Option Addr} {x : DataW H × List MemPlace} (h : DataW.trod enc Tryd.prog W 0 (fun _ => true) true n 22 [.slice A m k] = some x) (hz : ∀ z ∈ x.1.weights Tryd.prog 22, z ≤ reachBytes) : m ≤ 140737488351232 := by
  have hb : Tryd.prog.bytesOf 5 = 1 := by kernel_rfl
  rcases open_slice Tryd.underlying22 h with ⟨hcs, _⟩ | ⟨a, len, cap, m', q, D, Pl, hcs, _, hl, hm, hmm, hx, _⟩
  · simp at hcs
    omega
  · simp at hcs
    obtain ⟨_, rfl, rfl⟩ := hcs
    rw [hx] at hz
    have h9 := hz (((List.range m).map D).length + ((List.range (m' - m)).map fun j => D (m + j)).length |> (· * 1)) (by
      simp only [DataW.weights, Tryd.underlying22, hb]
      exact List.mem_cons_self)
    simp only [List.length_map, List.length_range] at h9
    unfold reachBytes at h9
    omega
end
section
open Go.ChangeShapes Go.WideShapes Go.ChangeAt Go.Joins
theorem trod_BOpR {H : Type} {enc : TypeId × Value → H} {W : World} {fuel : Nat} {l : List Value} {x : DataW H × List MemPlace} (hf : DataW.trod enc Tryd.prog W 0 (fun _ => true) true fuel 24 l = some x) (hz : ∀ z ∈ x.1.weights Tryd.prog 24, z ≤ reachBytes) : ∃ o : BOp, l = o.cells.toList ∧ IsBOp W o ∧ o.kn ≤ 140737488351232 ∧ o.vn ≤ 140737488351232 := by
  obtain ⟨xs, n, _, hxe, hcl, hlen, hg⟩ := DataW.trod_struct Tryd.underlying24 hf
  have hsz6 : l.length = 5 := hcl.trans (by kernel_rfl)
  match l, hsz6 with
  | [c0, c1, c2, c3, c4], _ =>
    match xs, hlen with
    | [y0, y1, y2, y3, y4], _ =>
      have g0 : DataW.trod enc Tryd.prog W 0 (fun _ => true) true n 3 [c0] = some y0 := by simpa [Value.cells, show Tryd.prog.cellsOf 3 = 1 by kernel_rfl] using hg 0 _ rfl
      obtain ⟨z0, e0, _, w0⟩ := DataW.trod_int Tryd.underlying3 g0
      injection e0 with e0 _
      subst e0
      have g1 : DataW.trod enc Tryd.prog W 0 (fun _ => true) true n 3 [c1] = some y1 := by simpa [Value.cells, show Tryd.prog.cellsOf 3 = 1 by kernel_rfl] using hg 1 _ rfl
      obtain ⟨z1, e1, _, w1⟩ := DataW.trod_int Tryd.underlying3 g1
      injection e1 with e1 _
      subst e1
      have g2 : DataW.trod enc Tryd.prog W 0 (fun _ => true) true n 3 [c2] = some y2 := by simpa [Value.cells, show Tryd.prog.cellsOf 3 = 1 by kernel_rfl] using hg 2 _ rfl
      obtain ⟨z2, e2, _, w2⟩ := DataW.trod_int Tryd.underlying3 g2
      injection e2 with e2 _
      subst e2
      have g3 : DataW.trod enc Tryd.prog W 0 (fun _ => true) true n 22 [c3] = some y3 := by simpa [Value.cells, show Tryd.prog.cellsOf 22 = 1 by kernel_rfl] using hg 3 _ rfl
      obtain ⟨A3, n3, k3, rfl⟩ : ∃ A n k, c3 = Value.slice A n k := slice_of g3
      obtain ⟨b3, B3⟩ := open_bs Tryd.underlying22 Tryd.underlying5 (by kernel_rfl) (show DataW.trod enc Tryd.prog W 0 (fun _ => true) true n 22 (Value.slice A3 n3 k3).cells.toList = some (y3.1, y3.2) by simpa [Value.cells] using g3)
      have g4 : DataW.trod enc Tryd.prog W 0 (fun _ => true) true n 22 [c4] = some y4 := by simpa [Value.cells, show Tryd.prog.cellsOf 22 = 1 by kernel_rfl] using hg 4 _ rfl
      obtain ⟨A4, n4, k4, rfl⟩ : ∃ A n k, c4 = Value.slice A n k := slice_of g4
      obtain ⟨b4, B4⟩ := open_bs Tryd.underlying22 Tryd.underlying5 (by kernel_rfl) (show DataW.trod enc Tryd.prog W 0 (fun _ => true) true n 22 (Value.slice A4 n4 k4).cells.toList = some (y4.1, y4.2) by simpa [Value.cells] using g4)
      have hw : x.1.weights Tryd.prog 24 = y0.1.weights Tryd.prog 3 ++ (y1.1.weights Tryd.prog 3 ++ (y2.1.weights Tryd.prog 3 ++ (y3.1.weights Tryd.prog 22 ++ (y4.1.weights Tryd.prog 22 ++ [])))) := by
        rw [hxe]; simp only [DataW.weights, Tryd.underlying24, List.map_cons, List.map_nil, DataW.weightsEach]
      rw [hw] at hz
      have r3 := bs_reach g3 (fun z h => hz z (by simp [h]))
      have r4 := bs_reach g4 (fun z h => hz z (by simp [h]))
      refine ⟨⟨z0, z1, z2, A3, n3, k3, A4, n4, k4, b3, b4⟩, ?_, ?_, r3, r4⟩
      · rfl
      · exact ⟨bounds_i64 w0, bounds_i64 w1, bounds_i64 w2, B3, B4⟩
end
section
open Go.ChangeShapes Go.WideShapes Go.ChangeAt Go.Deep
theorem open_sR28 {H : Type} {enc : TypeId × Value → H} {w : World} {A : Option Addr} {n c : Nat} {d : DataW H} {p : List MemPlace} (h : DataW.Trod enc Tryd.prog w 0 (fun _ => true) true 28 (.slice A n c) d p) (hz : (d.weights Tryd.prog 28).all (· ≤ reachBytes) = true) : ∃ os, IsBOps w A n c os ∧ ∀ r, r < n → (os r).kn ≤ 140737488351232 ∧ (os r).vn ≤ 140737488351232 := by
  obtain ⟨fuel, hf⟩ := h
  have ce : Tryd.prog.cellsOf 24 = 5 := by kernel_rfl
  rcases open_slice Tryd.underlying28 hf with ⟨hcs, _⟩ | ⟨a, len, cap, m, q, D, Pl, hcs, _, hl, hm, hmm, hdx, hx⟩
  · simp [Value.cells] at hcs
    obtain ⟨rfl, rfl, rfl⟩ := hcs
    refine ⟨fun _ => ⟨0, 0, 0, none, 0, 0, none, 0, 0, [], []⟩, ⟨Nat.le_refl _, Nat.zero_le _, fun r hr => absurd hr (by omega)⟩, fun r hr => absurd hr (by omega)⟩
  · simp [Value.cells] at hcs
    obtain ⟨rfl, rfl, rfl⟩ := hcs
    have hmc : m = c := by rw [hmm]; rfl
    subst hmc
    rw [ce] at hx
    injection hdx with hd _
    subst hd
    have hzr : ∀ r, r < m → ∀ z ∈ (D r).weights Tryd.prog 24, z ≤ reachBytes := fun r hr z hzz => by
      refine of_decide_eq_true (List.all_eq_true.1 hz z ?_)
      simp only [DataW.weights, Tryd.underlying28]
      refine List.mem_cons_of_mem _ ?_
      rcases Nat.lt_or_ge r n with hrn | hrn
      · exact List.mem_append_left _ (wAll_mem (List.mem_map.2 ⟨r, List.mem_range.2 hrn, rfl⟩) z hzz)
      · exact List.mem_append_right _ (wAll_mem (List.mem_map.2 ⟨r - n, List.mem_range.2 (by omega), by rw [show n + (r - n) = r by omega]⟩) z hzz)
    have hrow : ∀ r, r < m → ∃ o : BOp, (IsBOp w o ∧ o.kn ≤ 140737488351232 ∧ o.vn ≤ 140737488351232) ∧ ∀ (j : Nat) (u : Value), o.cells.toList[j]? = some u → w.cell? (a.add (r * 5 + j)) = some u := by
      intro r hr
      obtain ⟨cs', h1, h2⟩ := hx r hr
      obtain ⟨_, hlen, hcell⟩ := World.cells?_some h1
      obtain ⟨o, ho, hi⟩ := trod_BOpR h2 (hzr r hr)
      refine ⟨o, hi, fun j u hu => ?_⟩
      rw [← ho] at hu
      have hj : j < cs'.length := (List.getElem?_eq_some_iff.1 hu).1
      have h3 := hcell j (by omega)
      rw [add_add, hu] at h3
      exact h3
    haveI : Inhabited BOp := ⟨⟨0, 0, 0, none, 0, 0, none, 0, 0, [], []⟩⟩
    obtain ⟨os, hos⟩ := choose_lt hrow
    refine ⟨os, ⟨hl, hm, fun r hr => ?_⟩, fun r hr => (hos r (by omega)).1.2⟩
    obtain ⟨⟨hi, _⟩, hc⟩ := hos r (by omega)
    obtain ⟨b, off, spot⟩ := a
    have hb : b < w.heap.size := by
      have h0 := (hos 0 (by omega)).2 0 _ rfl
      have := World.block_lt_of_cell? w _ h0
      simpa [Addr.add] using this
    have hsp : spot = none := by
      have h9 := (hos 0 (by omega)).2 0 _ rfl
      have h1 := World.cell?_spot h9
      simpa [Addr.add] using h1
    subst hsp
    refine ⟨b, off, rfl, hb, hi, fun j u hu => ?_⟩
    have h3 := hc j u hu
    rw [Addr.add_mid, ← Nat.add_assoc] at h3
    exact h3
end
end Go.Proofs.YtkajlbdiofobcaaDoor
