/-
  Plain: what is written is read, and what is read is written as it was.
-/
import Derived.Test.YtamkbedbkjndgaaDrA
import Derived.Test.YtamkbedbkjndgaaDrL6
import Derived.Test.YtamkbedbkjndgaaDrQ
import Derived.Test.YtamkbedbkjndgaaAlA
import Derived.Test.YtamkbedbkjndgaaAl4
import Derived.Test.YtamkbedbkjndgaaDrM
import Derived.Test.YtamkbedbkjndgaaDrL8
import Derived.Test.YtamkbedbkjndgaaNs
import Derived.Test.YtamkbedbkjndgaaSr3
namespace Go.Proofs.Ytamkbedbkjndgaa
open Go.RowKit Go
set_option linter.unusedVariables false
set_option linter.unusedSimpArgs false
set_option maxRecDepth 100000
theorem split31 (tag : UInt8) (b more : List UInt8) (h : tag.toNat % 32 = 31) : splitQ (wrQ tag b ++ more) = none := by
  have hn : nth (wrQ tag b ++ more) 0 = tag.toNat := by unfold nth wrQ; split <;> rfl
  unfold splitQ
  rw [if_pos (.inr (by rw [hn]; exact h))]
theorem trimZ_idem (bs : List UInt8) : trimZ (trimZ bs) = trimZ bs := by
  cases h : trimZ bs with
  | nil => rfl
  | cons d r => exact trimZ_self (trimZ_head bs d r h)
theorem putI_trim (bs : List UInt8) : putI (trimZ bs) = putI bs := by
  unfold putI
  rw [trimZ_idem]
theorem putI_of (bs : List UInt8) (d : UInt8) (r : List UInt8) (h : trimZ bs = d :: r) : putI bs = if 128 ≤ d.toNat then 0 :: d :: r else d :: r := by
  unfold putI
  rw [h]
theorem putI_nil (bs : List UInt8) (h : trimZ bs = []) : putI bs = [0] := by
  unfold putI
  rw [h]
theorem zero_of {d : UInt8} (h : d.toNat = 0) : d = 0 := UInt8.toNat_inj.1 h
theorem int_back {bs n : List UInt8} (h : intQ bs = some n) : putI n = bs ∧ n = trimZ bs := by
  have hn : n = trimZ bs := by
    match bs, h with
    | [d], h =>
      simp only [intQ] at h
      split at h; cases h
      exact (Option.some.inj h).symm
    | d :: x :: r, h =>
      simp only [intQ] at h
      split at h; cases h
      exact (Option.some.inj h).symm
  refine ⟨?_, hn⟩
  rw [hn, putI_trim]
  match bs, h with
  | [d], h =>
    simp only [intQ] at h
    split at h; cases h
    by_cases h0 : d.toNat = 0
    · rw [putI_nil _ (by rw [trimZ_cons, if_pos h0]; rfl), zero_of h0]
    · rw [putI_of _ d [] (trimZ_self h0), if_neg (by omega)]
  | d :: x :: r, h =>
    simp only [intQ] at h
    split at h; cases h
    rename_i hc
    by_cases h0 : d.toNat = 0
    · have hx : 128 ≤ x.toNat := by omega
      rw [putI_of _ x r (by rw [trimZ_cons, if_pos h0, trimZ_self (by omega)]), if_pos hx, zero_of h0]
    · rw [putI_of _ d (x :: r) (trimZ_self h0), if_neg (by omega)]
/-! ### numbers of seven bits a byte -/
theorem u8_small (v : Nat) (h : v < 256) : (UInt8.ofNat v).toNat = v := by rw [UInt8.toNat_ofNat']; omega
theorem numG_sevC : ∀ (k y : Nat) (tail : List UInt8), y ≤ k → y ≠ 0 → y ≤ 144115188075855871 → numG (sevC y ++ tail) 0 0 = numG tail y (sevC y).length ∧ (sevC y).length ≠ 0
  | 0, y, tail, h1, h2, _ => by omega
  | k + 1, y, tail, h1, h2, h3 => by
    rw [sevC_pos h2]
    have hb : (UInt8.ofNat (128 + y % 128)).toNat = 128 + y % 128 := u8_small _ (by omega)
    refine ⟨?_, by simp⟩
    rw [List.append_assoc]
    by_cases h0 : y / 128 = 0
    · rw [h0, sevC_zero]
      simp only [List.nil_append, List.cons_append, List.length_cons, List.length_nil]
      rw [numG_cons, hb, if_neg (by omega), if_neg (by omega)]
      congr 1
      omega
    · obtain ⟨e1, e2⟩ := numG_sevC k (y / 128) ([UInt8.ofNat (128 + y % 128)] ++ tail) (by omega) h0 (by omega)
      rw [e1]
      simp only [List.cons_append, List.nil_append]
      rw [numG_cons, hb, if_neg (by omega), if_neg (by omega)]
      congr 1
      · omega
      · simp
theorem numQ_sev (x : Nat) (rest : List UInt8) (h : x < 18446744073709551616) : numQ (sev x ++ rest) = some (x, (sev x).length) := by
  unfold numQ sev
  have hb : (UInt8.ofNat (x % 128)).toNat = x % 128 := u8_small _ (by omega)
  by_cases h0 : x / 128 = 0
  · rw [h0, sevC_zero]
    simp only [List.nil_append, List.cons_append]
    rw [numG_cons, hb, if_neg (by omega), if_pos (by omega)]
    simp
    omega
  · obtain ⟨e1, e2⟩ := numG_sevC _ (x / 128) ([UInt8.ofNat (x % 128)] ++ rest) (Nat.le_refl _) h0 (by omega)
    rw [List.append_assoc, e1]
    simp only [List.cons_append, List.nil_append]
    rw [numG_cons, hb, if_neg (by omega), if_pos (by omega)]
    simp
    omega
theorem numG_back : ∀ (bs : List UInt8) (x i X N : Nat), numG bs x i = some (X, N) → (i = 0 → x = 0) → (i ≠ 0 → x ≠ 0) → sevC x ++ bs.take (N - i) = sev X ∧ i + 1 ≤ N
  | [], _, _, _, _, h, _, _ => by cases h
  | d :: r, x, i, X, N, h, h1, h2 => by
    rw [numG_cons] at h
    split at h; cases h
    rename_i hc
    split at h
    · rename_i hd
      simp only [Option.some.injEq, Prod.mk.injEq] at h
      obtain ⟨rfl, rfl⟩ := h
      refine ⟨?_, Nat.le_refl _⟩
      rw [Nat.add_sub_cancel_left]
      unfold sev
      rw [show (x * 128 + d.toNat) / 128 = x by omega, show (x * 128 + d.toNat) % 128 = d.toNat by omega, UInt8.ofNat_toNat]
      rfl
    · rename_i hd
      have hdl := d.toNat_lt
      have hx : x * 128 + (d.toNat - 128) ≠ 0 := by
        by_cases hi : i = 0
        · have := h1 hi
          have : d.toNat ≠ 128 := fun e => hc (.inl ⟨hi, e⟩)
          omega
        · have := h2 hi
          omega
      obtain ⟨e1, e2⟩ := numG_back r _ _ _ _ h (fun e => by omega) (fun _ => hx)
      refine ⟨?_, by omega⟩
      rw [sevC_pos hx] at e1
      rw [show (x * 128 + (d.toNat - 128)) / 128 = x by omega, show 128 + (x * 128 + (d.toNat - 128)) % 128 = d.toNat by omega, UInt8.ofNat_toNat] at e1
      rw [← e1, List.append_assoc]
      congr 1
      rw [show N - i = (N - (i + 1)) + 1 by omega, List.take_succ_cons]
      rfl
theorem numQ_back {bs : List UInt8} {X N : Nat} (h : numQ bs = some (X, N)) : sev X = bs.take N := by
  obtain ⟨e, _⟩ := numG_back bs 0 0 X N h (fun _ => rfl) (fun h => absurd rfl h)
  rw [sevC_zero, List.nil_append, Nat.sub_zero] at e
  exact e.symm
theorem numsQ_back : ∀ (k : Nat) (bs : List UInt8) (l : List Nat), bs.length ≤ k → numsQ bs = some l → bs = l.flatMap sev ∧ ∀ x ∈ l, x < 18446744073709551616
  | 0, bs, l, hk, h => by
    obtain rfl : bs = [] := List.length_eq_zero_iff.1 (by omega)
    rw [numsQ_nil] at h
    cases h
    simp
  | k + 1, bs, l, hk, h => by
    by_cases hn : bs = []
    · subst hn
      rw [numsQ_nil] at h
      cases h
      simp
    cases hq : numQ bs with
    | none => rw [numsQ_none hn hq] at h; cases h
    | some p =>
      obtain ⟨x, n⟩ := p
      rw [numsQ_some hq] at h
      obtain ⟨l', h1, rfl⟩ := Option.map_eq_some_iff.1 h
      have hle := numQ_le hq
      obtain ⟨e1, e2⟩ := numsQ_back k (bs.drop n) l' (by rw [List.length_drop]; omega) h1
      refine ⟨?_, fun y hy => ?_⟩
      · rw [List.flatMap_cons, ← e1, numQ_back hq, List.take_append_drop]
      · rcases List.mem_cons.1 hy with rfl | hy
        · exact numQ_lt hq
        · exact e2 y hy
theorem numsQ_sevs : ∀ (l : List Nat), (∀ x ∈ l, x < 18446744073709551616) → numsQ (l.flatMap sev) = some l
  | [], _ => numsQ_nil
  | x :: r, h => by
    have hq := numQ_sev x (r.flatMap sev) (h x (by simp))
    rw [List.flatMap_cons, numsQ_some hq]
    have : (sev x ++ r.flatMap sev).drop (sev x).length = r.flatMap sev := by simp
    rw [this, numsQ_sevs r (fun y hy => h y (by simp [hy]))]
    rfl
theorem oid_back {bs : List UInt8} {l : List Nat} (h : oidQ bs = some l) : putoidQ l = bs := by
  unfold oidQ at h
  split at h
  · rename_i x r hq
    cases h
    obtain ⟨e, hlt⟩ := numsQ_back _ bs _ (Nat.le_refl _) hq
    have hx := hlt x (by simp)
    rw [e]
    simp only [arcs, putoidQ, List.flatMap_cons]
    rw [if_neg (by omega)]
    congr 2
    omega
  · cases h
theorem oid_put {xs : List Nat} (hw : ∀ x ∈ xs, x < 18446744073709551616) (h : putoidQ xs ≠ []) : oidQ (putoidQ xs) = some xs := by
  match xs, hw, h with
  | a :: b :: r, hw, h =>
    simp only [putoidQ] at h ⊢
    split at h
    · exact absurd rfl h
    rename_i hc
    rw [if_neg hc]
    have hb := hw b (by simp)
    have hq := numsQ_sevs ((40 * a + b) :: r) (fun y hy => by
      rcases List.mem_cons.1 hy with rfl | hy
      · omega
      · exact hw y (by simp [hy]))
    rw [List.flatMap_cons] at hq
    unfold oidQ
    rw [hq]
    simp only [arcs, Option.some.injEq, List.cons.injEq, and_true]
    omega
  | [], _, h => exact absurd rfl h
  | [_], _, h => exact absurd rfl h
/-! ### sets -/
/-- One element's bytes. -/
def Elm (r : List UInt8) : Prop := ∃ (tag : UInt8) (a : List UInt8), tag.toNat % 32 ≠ 31 ∧ a.length < 4294967296 ∧ r = wrQ tag a
theorem allQ_elms : ∀ (k : Nat) (bs : List UInt8) (l : List (List UInt8 × List UInt8)), bs.length ≤ k → allQ bs = some l → (∀ p ∈ l, Elm p.1) ∧ (l.map Prod.fst).flatten = bs
  | 0, bs, l, hk, h => by
    obtain rfl : bs = [] := List.length_eq_zero_iff.1 (by omega)
    rw [allQ_nil] at h
    cases h
    exact ⟨fun p hp => by (cases hp), rfl⟩
  | k + 1, bs, l, hk, h => by
    by_cases hn : bs = []
    · subst hn
      rw [allQ_nil] at h
      cases h
      exact ⟨fun p hp => by (cases hp), rfl⟩
    cases hq : splitQ bs with
    | none => rw [allQ_none hn hq] at h; cases h
    | some p =>
      obtain ⟨s, t⟩ := p
      rw [allQ_some hq] at h
      obtain ⟨l', h1, rfl⟩ := Option.map_eq_some_iff.1 h
      have hle := splitQ_le hq
      obtain ⟨e1, e2⟩ := allQ_elms k (bs.drop t) l' (by rw [List.length_drop]; omega) h1
      refine ⟨fun p hp => ?_, ?_⟩
      · rcases List.mem_cons.1 hp with rfl | hp
        · refine ⟨bs.getD 0 0, (bs.take t).drop s, splitQ_tag hq, ?_, wr_split hq⟩
          have := splitQ_small hq
          rw [List.length_drop, List.length_take]
          omega
        · exact e1 p hp
      · simp only [List.map_cons, List.flatten_cons, e2]
        exact List.take_append_drop _ _
theorem allQ_flat : ∀ (rs : List (List UInt8)), (∀ r ∈ rs, Elm r) → ∃ l, allQ rs.flatten = some l ∧ l.map Prod.fst = rs
  | [], _ => ⟨[], allQ_nil, rfl⟩
  | r :: rs, h => by
    obtain ⟨tag, a, h1, h2, rfl⟩ := h r (by simp)
    obtain ⟨l, e1, e2⟩ := allQ_flat rs (fun y hy => h y (by simp [hy]))
    refine ⟨(wrQ tag a, a) :: l, ?_, by simp [e2]⟩
    rw [List.flatten_cons, allQ_wr tag h1 a _ h2, e1]
    rfl
theorem ordB_sorted (l : List (List UInt8)) (h : l.Pairwise (· ≤ ·)) : ordB l = true := by
  refine ord_yes fun i hi => ?_
  unfold badA
  rw [decide_eq_false_iff_not, cmp_lt]
  rw [List.pairwise_iff_getElem] at h
  have := h i (i + 1) (by omega) hi (by omega)
  rw [List.getD_eq_getElem?_getD, List.getD_eq_getElem?_getD, List.getElem?_eq_getElem hi, List.getElem?_eq_getElem (show i < l.length by omega)]
  exact List.not_lt.2 this
theorem setQ_sorted (bs : List UInt8) (l : List (List UInt8 × List UInt8)) (h : allQ bs = some l) : setQ (sortQ (l.map Prod.fst)).flatten = true := by
  obtain ⟨e1, _⟩ := allQ_elms _ bs l (Nat.le_refl _) h
  obtain ⟨l2, h2, h3⟩ := allQ_flat (sortQ (l.map Prod.fst)) (fun r hr => by
    have := (sortQ_perm (l.map Prod.fst)).mem_iff.1 hr
    obtain ⟨p, hp, rfl⟩ := List.mem_map.1 this
    exact e1 p hp)
  unfold setQ
  rw [h2]
  simp only
  rw [h3]
  exact ordB_sorted _ (sortQ_pair _)
end Go.Proofs.Ytamkbedbkjndgaa
namespace Go.Proofs.Ytamkbedbkjndgaa
open Go.RowKit Go
set_option linter.unusedVariables false
set_option linter.unusedSimpArgs false
set_option maxRecDepth 100000
def pTag (bs : List UInt8) : UInt8 := match splitQ bs with | none => 0 | some _ => bs.getD 0 0
def pBody (bs : List UInt8) : List UInt8 := match splitQ bs with | none => [] | some (s, t) => (bs.take t).drop s
def pRaw (bs : List UInt8) : List UInt8 := match splitQ bs with | none => [] | some (s, t) => bs.take t
def pRest (bs : List UInt8) : List UInt8 := match splitQ bs with | none => [] | some (s, t) => bs.drop t
def pErr (bs : List UInt8) : Nat := match splitQ bs with | none => 9 | some _ => 0
def ParseR (w : World) (bs : List UInt8) (e : Ending) (w' : World) : Prop :=
  (∃ A1 n1 c1 A2 n2 c2 A3 n3 c3, e = .returned (.tuple #[.agg #[.int .u8 ((pTag bs).toNat : Int), .slice A1 n1 c1, .slice A2 n2 c2], .slice A3 n3 c3, .int .i64 (pErr bs : Int)]) ∧
    OwnB w' w.heap.size A1 n1 c1 (pBody bs) ∧ OwnB w' w.heap.size A2 n2 c2 (pRaw bs) ∧ OwnB w' w.heap.size A3 n3 c3 (pRest bs) ∧
    (blk A1 = none ∨ blk A1 ≠ blk A2) ∧ (blk A1 = none ∨ blk A1 ≠ blk A3) ∧ (blk A2 = none ∨ blk A2 ≠ blk A3)) ∧ Below w.heap.size w w'
theorem parse_r {w w' : World} {bs : List UInt8} {e : Ending} (h : ParsePost w bs e w') : ParseR w bs e w' := by
  unfold ParsePost at h
  unfold ParseR pTag pBody pRaw pRest pErr
  cases hq : splitQ bs with
  | none =>
    rw [hq] at h
    obtain ⟨rfl, hb⟩ := h
    exact ⟨⟨none, 0, 0, none, 0, 0, none, 0, 0, rfl, OwnB.nil _ _, OwnB.nil _ _, OwnB.nil _ _, .inl rfl, .inl rfl, .inl rfl⟩, hb⟩
  | some p =>
    obtain ⟨s, t⟩ := p
    rw [hq] at h
    obtain ⟨⟨A1, n1, c1, A2, n2, c2, A3, n3, c3, rfl, o1, o2, o3, f1, f2, f3⟩, hb⟩ := h
    exact ⟨⟨A1, n1, c1, A2, n2, c2, A3, n3, c3, rfl, o1, o2, o3, f1, f2, f3⟩, hb⟩
theorem p_len (bs : List UInt8) : (pBody bs).length ≤ bs.length ∧ (pRaw bs).length ≤ bs.length ∧ (pRest bs).length ≤ bs.length := by
  unfold pBody pRaw pRest
  cases hq : splitQ bs with
  | none => simp
  | some p =>
    obtain ⟨s, t⟩ := p
    simp only [List.length_take, List.length_drop]
    omega
theorem p_back {bs : List UInt8} (h : pErr bs = 0) : wrQ (pTag bs) (pBody bs) = pRaw bs ∧ pRaw bs ++ pRest bs = bs := by
  unfold pErr at h
  unfold pTag pBody pRaw pRest
  cases hq : splitQ bs with
  | none => rw [hq] at h; cases h
  | some p =>
    obtain ⟨s, t⟩ := p
    exact ⟨(wr_split hq).symm, List.take_append_drop _ _⟩
theorem p_wr (tag : UInt8) (b more : List UInt8) (hb : b.length < 4294967296) : if tag.toNat % 32 = 31 then pErr (wrQ tag b ++ more) = 9 else (pErr (wrQ tag b ++ more) = 0 ∧ pTag (wrQ tag b ++ more) = tag ∧ pBody (wrQ tag b ++ more) = b ∧ pRaw (wrQ tag b ++ more) = wrQ tag b ∧ pRest (wrQ tag b ++ more) = more) := by
  split
  · rename_i h
    unfold pErr
    rw [split31 tag b more h]
  · rename_i h
    have hs := split_wr tag b more h hb
    unfold pErr pTag pBody pRaw pRest
    rw [hs]
    have e1 : (wrQ tag b ++ more).take (wrQ tag b).length = wrQ tag b := by simp
    have e2 : (wrQ tag b ++ more).drop (wrQ tag b).length = more := by simp
    have e3 : (wrQ tag b).drop ((wrQ tag b).length - b.length) = b := by
      have : ∃ p, wrQ tag b = p ++ b := by unfold wrQ; split; exact ⟨[tag, _], rfl⟩; exact ⟨tag :: UInt8.ofNat (128 + (lenB b.length).length) :: lenB b.length, by simp⟩
      obtain ⟨p, hp⟩ := this
      rw [hp]
      simp
    refine ⟨rfl, ?_, ?_, e1, e2⟩
    · simp only
      unfold wrQ
      split <;> rfl
    · simp only
      rw [e1, e3]
theorem p_err (bs : List UInt8) : pErr bs = 0 ∨ pErr bs = 9 := by
  unfold pErr
  cases splitQ bs with
  | none => exact .inr rfl
  | some p => exact .inl rfl
def IntR (w : World) (bs : List UInt8) (e : Ending) (w' : World) : Prop :=
  (∃ A n c, e = .returned (.tuple #[.slice A n c, .bool (intQ bs).isSome]) ∧ OwnB w' w.heap.size A n c ((intQ bs).getD [])) ∧ Below w.heap.size w w'
theorem int_r {w w' : World} {bs : List UInt8} {e : Ending} (h : IntPost w bs e w') : IntR w bs e w' := by
  unfold IntPost at h
  unfold IntR
  cases hq : intQ bs with
  | none =>
    rw [hq] at h
    obtain ⟨rfl, hb⟩ := h
    exact ⟨⟨none, 0, 0, rfl, OwnB.nil _ _⟩, hb⟩
  | some l =>
    rw [hq] at h
    exact h
def OidR (w : World) (bs : List UInt8) (e : Ending) (w' : World) : Prop :=
  (∃ A n c, e = .returned (.tuple #[.slice A n c, .bool (oidQ bs).isSome]) ∧ (∀ l, oidQ bs = some l → OwnR w' w.heap.size 55 1 A n c (l.map u64v))) ∧ Below w.heap.size w w'
theorem oid_r {w w' : World} {bs : List UInt8} {e : Ending} (h : OidPost w bs e w') : OidR w bs e w' := by
  unfold OidPost at h
  unfold OidR
  cases hq : oidQ bs with
  | none =>
    rw [hq] at h
    obtain ⟨⟨A, c, rfl⟩, hb⟩ := h
    exact ⟨⟨A, 0, c, rfl, fun l h => by cases h⟩, hb⟩
  | some l =>
    rw [hq] at h
    obtain ⟨⟨A, n, c, rfl, ho⟩, hb⟩ := h
    exact ⟨⟨A, n, c, rfl, fun l' h => by cases h; exact ho⟩, hb⟩
/-- lintellaw10.Case, as the model holds it. -/
structure CaseP where
  tag : UInt8
  Ab : Option Addr
  nb : Nat
  cb : Nat
  bb : List UInt8
  Am : Option Addr
  nm : Nat
  cm : Nat
  bm : List UInt8
  Aa : Option Addr
  na : Nat
  ca : Nat
  xs : List Nat
def CaseP.cells (o : CaseP) : Array Value := #[.int .u8 (o.tag.toNat : Int), .slice o.Ab o.nb o.cb, .slice o.Am o.nm o.cm, .slice o.Aa o.na o.ca]
def CaseP.val (o : CaseP) : Value := .agg o.cells
structure IsCaseP (w : World) (o : CaseP) : Prop where
  b : IsBs w o.Ab o.nb o.cb o.bb
  m : IsBs w o.Am o.nm o.cm o.bm
  a : IsNs w o.Aa o.na o.ca o.xs
section
open Go.ChangeShapes Go.WideShapes Go.ChangeAt Go.Joins
theorem open_p40 {H : Type} {enc : TypeId × Value → H} {W : World} {r : Reach} {b0 : Nat} {v : Value} {d : DataW H} {p : List MemPlace} (hv : Value.okWide Try.prog W r b0 40 v)
    (h : DataW.Trod enc Try.prog W 0 (fun _ => true) true 40 v d p) : ∃ x : CaseP, v = x.val ∧ IsCaseP W x := by
  obtain ⟨cs, rfl, hsz⟩ := okWide_struct Try.underlying40 hv
  have hsz6 : cs.size = 4 := hsz.trans (by kernel_rfl)
  obtain ⟨l⟩ := cs
  obtain ⟨fuel, hf⟩ := h
  obtain ⟨xs, n, _, _, _, hlen, hg⟩ := DataW.trod_struct Try.underlying40 hf
  match l, hsz6 with
  | [c0, c1, c2, c3], _ =>
    match xs, hlen with
    | [y0, y1, y2, y3], _ =>
      have g0 : DataW.trod enc Try.prog W 0 (fun _ => true) true n 5 [c0] = some y0 := by simpa [Value.cells, show Try.prog.cellsOf 5 = 1 by kernel_rfl] using hg 0 _ rfl
      obtain ⟨z0, e0, _, w0⟩ := DataW.trod_int Try.underlying5 g0
      injection e0 with e0 _
      subst e0
      have bd0 := bounds_u8 w0
      have v0 : (((UInt8.ofNat z0.toNat).toNat : Nat) : Int) = z0 := by rw [UInt8.toNat_ofNat']; omega
      have g1 : DataW.trod enc Try.prog W 0 (fun _ => true) true n 22 [c1] = some y1 := by simpa [Value.cells, show Try.prog.cellsOf 22 = 1 by kernel_rfl] using hg 1 _ rfl
      obtain ⟨A1, n1, k1, rfl⟩ : ∃ A n k, c1 = Value.slice A n k := slice_of g1
      obtain ⟨b1, B1⟩ := open_bs Try.underlying22 Try.underlying5 (by kernel_rfl) (show DataW.trod enc Try.prog W 0 (fun _ => true) true n 22 (Value.slice A1 n1 k1).cells.toList = some (y1.1, y1.2) by simpa [Value.cells] using g1)
      have g2 : DataW.trod enc Try.prog W 0 (fun _ => true) true n 22 [c2] = some y2 := by simpa [Value.cells, show Try.prog.cellsOf 22 = 1 by kernel_rfl] using hg 2 _ rfl
      obtain ⟨A2, n2, k2, rfl⟩ : ∃ A n k, c2 = Value.slice A n k := slice_of g2
      obtain ⟨b2, B2⟩ := open_bs Try.underlying22 Try.underlying5 (by kernel_rfl) (show DataW.trod enc Try.prog W 0 (fun _ => true) true n 22 (Value.slice A2 n2 k2).cells.toList = some (y2.1, y2.2) by simpa [Value.cells] using g2)
      have g3 : DataW.trod enc Try.prog W 0 (fun _ => true) true n 38 [c3] = some y3 := by simpa [Value.cells, show Try.prog.cellsOf 38 = 1 by kernel_rfl] using hg 3 _ rfl
      obtain ⟨A3, n3, k3, rfl⟩ : ∃ A n k, c3 = Value.slice A n k := slice_ofN g3
      obtain ⟨b3, B3⟩ := open_ns Try.underlying38 Try.underlying55 (by kernel_rfl) (show DataW.trod enc Try.prog W 0 (fun _ => true) true n 38 (Value.slice A3 n3 k3).cells.toList = some (y3.1, y3.2) by simpa [Value.cells] using g3)
      refine ⟨⟨UInt8.ofNat z0.toNat, A1, n1, k1, b1, A2, n2, k2, b2, A3, n3, k3, b3⟩, ?_, ?_⟩
      · unfold CaseP.val CaseP.cells; simp only [v0]
      · exact ⟨B1, B2, B3⟩
end
end Go.Proofs.Ytamkbedbkjndgaa
namespace Go.Proofs.Ytamkbedbkjndgaa
open Go.RowKit Go
set_option linter.unusedVariables false
set_option linter.unusedSimpArgs false
set_option maxRecDepth 100000
theorem sevs_len (l : List Nat) : l.length ≤ (l.flatMap sev).length := by
  induction l with
  | nil => simp
  | cons x r ih =>
    have := sev_pos x
    simp only [List.flatMap_cons, List.length_append, List.length_cons]
    omega
theorem oid_facts {bs : List UInt8} {l : List Nat} (h : oidQ bs = some l) : l.length ≤ bs.length + 1 ∧ ∀ x ∈ l, x < 18446744073709551616 := by
  unfold oidQ at h
  split at h
  · rename_i x r hq
    cases h
    obtain ⟨e, hlt⟩ := numsQ_back _ bs _ (Nat.le_refl _) hq
    have h1 := sevs_len (x :: r)
    rw [← e] at h1
    have hx := hlt x (by simp)
    refine ⟨by simp only [arcs, List.length_cons] at h1 ⊢; omega, fun y hy => ?_⟩
    simp only [arcs, List.mem_cons] at hy
    rcases hy with rfl | rfl | hy
    · omega
    · omega
    · exact hlt y (by simp [hy])
  · cases h
theorem putoid_len (xs : List Nat) (hw : ∀ x ∈ xs, x < 18446744073709551616) : (putoidQ xs).length ≤ 10 * xs.length := by
  match xs, hw with
  | a :: b :: r, hw =>
    simp only [putoidQ]
    split
    · simp
    · rename_i hc
      have h1 := sev_len (40 * a + b) (by have := hw b (by simp); omega)
      have h2 := flat_len r (fun j x hx => hw x (by have := List.mem_of_getElem? hx; simp [this]))
      simp only [List.length_append, List.length_cons]
      omega
  | [], _ => simp [putoidQ]
  | [_], _ => simp [putoidQ]
theorem rn_of {w : World} {base n c : Nat} {A : Option Addr} {l : List Nat} (h : OwnR w base 55 1 A n c (l.map u64v)) (hl : ∀ x ∈ l, x < 18446744073709551616) : RN w A n l :=
  ⟨by have := h.len; simpa using this, h.reads, fun j x hx => hl x (List.mem_of_getElem? hx)⟩
def rawOwn (v : EV) : Own1 := (v.ra, v.rn, v.rc, v.raw)
end Go.Proofs.Ytamkbedbkjndgaa
