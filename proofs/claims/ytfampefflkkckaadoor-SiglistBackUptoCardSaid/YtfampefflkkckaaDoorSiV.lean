/-
  siglist: what lists are, their bytes, what is read of bytes, beginnings, merging (plain data).
-/
import Derived.Test.YtfampefflkkckaaDoorStL
import Derived.Test.YtfampefflkkckaaDoorOctC1
namespace Go.Proofs.YtfampefflkkckaaDoor
open Go.RowKit Go
set_option linter.unusedVariables false
set_option linter.unusedSimpArgs false
set_option maxRecDepth 100000
/-- The 16 bytes behind a digest: a moment. -/
def sumB (d : List UInt8) : Bool := (readO d).isSome
/-! ### What lists are, and their bytes -/
/-- An item: its owner, its data. -/
abbrev Itm := List UInt8 × List UInt8
/-- A list: its kind, its items. -/
abbrev Lst := UInt8 × List Itm
def gHash : List UInt8 := [0x26, 0x16, 0xc4, 0xc1, 0x4c, 0x50, 0x92, 0x40, 0xac, 0xa9, 0x41, 0xf9, 0x36, 0x93, 0x43, 0x28]
def gCert : List UInt8 := [0xa1, 0x59, 0xc0, 0xa5, 0xe4, 0x94, 0xa7, 0x4a, 0x87, 0xb5, 0xab, 0x15, 0x5c, 0x2b, 0xf0, 0x72]
def gSum : List UInt8 := [0x92, 0xa4, 0xd2, 0x3b, 0xc0, 0x96, 0x79, 0x40, 0xb4, 0x20, 0xfc, 0xf9, 0x8e, 0xf1, 0x03, 0xed]
def guidL (k : UInt8) : List UInt8 := if k = 1 then gHash else if k = 2 then gCert else if k = 3 then gSum else []
def kindL (g : List UInt8) : UInt8 := if g = gHash then 1 else if g = gCert then 2 else if g = gSum then 3 else 0
def mayL (k : UInt8) (d : List UInt8) : Bool :=
  if k = 1 then decide (d.length = 32) else if k = 2 then decide (1 ≤ d.length ∧ d.length ≤ 8192) else if k = 3 then decide (d.length = 48) && sumB (d.drop 32) else false
theorem may_kind {k : UInt8} {d : List UInt8} (h : mayL k d = true) : k = 1 ∨ k = 2 ∨ k = 3 := by
  unfold mayL at h
  split at h
  · exact .inl ‹_›
  split at h
  · exact .inr (.inl ‹_›)
  split at h
  · exact .inr (.inr ‹_›)
  cases h
theorem may_len {k : UInt8} {d : List UInt8} (h : mayL k d = true) : 1 ≤ d.length ∧ d.length ≤ 8192 := by
  unfold mayL at h
  split at h
  · have := of_decide_eq_true h; omega
  split at h
  · exact of_decide_eq_true h
  split at h
  · rw [Bool.and_eq_true] at h
    have := of_decide_eq_true h.1; omega
  cases h
theorem guid_kind {k : UInt8} (h : k = 1 ∨ k = 2 ∨ k = 3) : (guidL k).length = 16 ∧ kindL (guidL k) = k := by
  rcases h with rfl | rfl | rfl <;> decide
theorem kind_guid {g : List UInt8} (h : kindL g ≠ 0) : guidL (kindL g) = g := by
  unfold kindL at h ⊢
  split
  · rename_i h1; rw [h1]; rfl
  split
  · rename_i h1; rw [h1]; rfl
  split
  · rename_i h1; rw [h1]; rfl
  · rename_i h1 h2 h3
    rw [if_neg h1, if_neg h2, if_neg h3] at h
    exact absurd rfl h
/-- How long the data of a list's items is. -/
def dl (x : Lst) : Nat := (x.2.headD ([], [])).2.length
def bodyL (is : List Itm) : List UInt8 := is.flatMap (fun y => y.1 ++ y.2)
/-- A list's bytes. -/
def lstB (x : Lst) : List UInt8 := guidL x.1 ++ (leB (28 + (16 + dl x) * x.2.length) 4 ++ ([0, 0, 0, 0] ++ (leB (16 + dl x) 4 ++ bodyL x.2)))
/-- May it be a list? -/
def rightL (x : Lst) : Bool := decide (x.2 ≠ []) && x.2.all (fun y => mayL x.1 y.2 && decide (y.2.length = dl x))
/-- Its owners have 16 bytes each. -/
def Own16 (x : Lst) : Prop := ∀ y ∈ x.2, y.1.length = 16
def itmQ (b : List UInt8) (a s : Nat) : Itm := (cut b a 16, cut b (a + 16) (s - 16))
def itmsQ (b : List UInt8) (s n : Nat) : List Itm := (List.range n).map fun i => itmQ b (28 + i * s) s
/-- The list with which bytes begin, and how long it is. -/
def oneQ (b : List UInt8) : Option (Lst × Nat) :=
  if b.length < 28 then none else
  let all := leN (cut b 16 4)
  let s := leN (cut b 24 4)
  if leN (cut b 20 4) ≠ 0 ∨ s ≤ 16 ∨ b.length < all ∨ all < 28 + s ∨ (all - 28) % s ≠ 0 then none else
  if (itmsQ b s ((all - 28) / s)).all (fun y => mayL (kindL (cut b 0 16)) y.2) then some ((kindL (cut b 0 16), itmsQ b s ((all - 28) / s)), all) else none
def readF : Nat → List UInt8 → Option (List Lst)
  | 0, b => if b = [] then some [] else none
  | f + 1, b => if b = [] then some [] else
    match oneQ b with
    | none => none
    | some (x, n) => (readF f (b.drop n)).map (x :: ·)
def readQ (b : List UInt8) : Option (List Lst) := readF b.length b
/-! ### One list -/
theorem leN_leB4 (x : Nat) (h : x < 4294967296) : leN (leB x 4) = x := by
  simp only [leB, List.range, List.range.loop, List.map, leN, nb, UInt8.toNat_ofNat']
  omega
theorem leB_leN4 (l : List UInt8) (h : l.length = 4) : leB (leN l) 4 = l := by
  match l, h with
  | [a, b, c, d], _ =>
    have ha := a.toNat_lt
    have hb := b.toNat_lt
    have hc := c.toNat_lt
    have hd := d.toNat_lt
    simp only [leB, List.range, List.range.loop, List.map, leN, nb]
    have e0 : UInt8.ofNat ((a.toNat + 256 * (b.toNat + 256 * (c.toNat + 256 * (d.toNat + 256 * 0)))) / 256 ^ 0) = a := by
      apply UInt8.toNat_inj.1; rw [UInt8.toNat_ofNat']; omega
    have e1 : UInt8.ofNat ((a.toNat + 256 * (b.toNat + 256 * (c.toNat + 256 * (d.toNat + 256 * 0)))) / 256 ^ 1) = b := by
      apply UInt8.toNat_inj.1; rw [UInt8.toNat_ofNat']; omega
    have e2 : UInt8.ofNat ((a.toNat + 256 * (b.toNat + 256 * (c.toNat + 256 * (d.toNat + 256 * 0)))) / 256 ^ 2) = c := by
      apply UInt8.toNat_inj.1; rw [UInt8.toNat_ofNat']; omega
    have e3 : UInt8.ofNat ((a.toNat + 256 * (b.toNat + 256 * (c.toNat + 256 * (d.toNat + 256 * 0)))) / 256 ^ 3) = d := by
      apply UInt8.toNat_inj.1; rw [UInt8.toNat_ofNat']; omega
    rw [e0, e1, e2, e3]
theorem leN_zero4 (l : List UInt8) (h : l.length = 4) (h0 : leN l = 0) : l = [0, 0, 0, 0] := by
  rw [← leB_leN4 l h, h0]; decide
theorem cut_here (a b : List UInt8) (k : Nat) (h : a.length = k) : cut (a ++ b) 0 k = a := by
  unfold cut; rw [List.drop_zero, ← h, List.take_left]
theorem cut_app (a b : List UInt8) (i k n : Nat) (h : a.length = n) (hi : n ≤ i) : cut (a ++ b) i k = cut b (i - n) k := by
  unfold cut
  rw [List.drop_append, List.drop_of_length_le (by omega), List.nil_append, h]
theorem cut_drop (b : List UInt8) (a i k : Nat) : cut (b.drop a) i k = cut b (a + i) k := by
  unfold cut; rw [List.drop_drop]
def itmsR (s : Nat) : Nat → List UInt8 → List Itm
  | 0, _ => []
  | n + 1, c => itmQ c 0 s :: itmsR s n (c.drop s)
theorem itmsR_is (s n : Nat) (c : List UInt8) : itmsR s n c = (List.range n).map fun i => itmQ c (i * s) s := by
  induction n generalizing c with
  | zero => rfl
  | succ n ih =>
    rw [itmsR, ih, List.range_succ_eq_map, List.map_cons, List.map_map]
    refine congr (congrArg _ (by rw [Nat.zero_mul])) (List.map_congr_left fun i _ => ?_)
    show itmQ (c.drop s) (i * s) s = itmQ c ((i + 1) * s) s
    unfold itmQ
    rw [cut_drop, cut_drop, Nat.succ_mul, Nat.add_comm s (i * s), ← Nat.add_assoc, Nat.add_comm s (i * s)]
theorem itmsQ_is (s n : Nat) (b : List UInt8) : itmsQ b s n = itmsR s n (b.drop 28) := by
  rw [itmsR_is]
  refine List.map_congr_left fun i _ => ?_
  unfold itmQ
  rw [cut_drop, cut_drop, Nat.add_assoc]
theorem items_read (s : Nat) (hs : 16 < s) (is : List Itm) (h : ∀ y ∈ is, y.1.length = 16 ∧ y.2.length = s - 16) (r : List UInt8) : itmsR s is.length (bodyL is ++ r) = is := by
  induction is with
  | nil => rfl
  | cons y is ih =>
    have hy := h y (List.mem_cons_self ..)
    have e : bodyL (y :: is) ++ r = y.1 ++ (y.2 ++ (bodyL is ++ r)) := by
      unfold bodyL; rw [List.flatMap_cons, List.append_assoc, List.append_assoc]
    rw [List.length_cons, itmsR, e]
    have e1 : itmQ (y.1 ++ (y.2 ++ (bodyL is ++ r))) 0 s = y := by
      unfold itmQ
      rw [cut_here _ _ _ hy.1, cut_app _ _ _ _ 16 hy.1 (by omega), show 0 + 16 - 16 = 0 from rfl, cut_here _ _ _ hy.2]
    have e2 : (y.1 ++ (y.2 ++ (bodyL is ++ r))).drop s = bodyL is ++ r := by
      rw [← List.append_assoc, List.drop_append, List.drop_of_length_le (by rw [List.length_append]; omega), List.nil_append, List.length_append, show s - (y.1.length + y.2.length) = 0 by omega, List.drop_zero]
    rw [e1, e2, ih (fun z hz => h z (List.mem_cons_of_mem _ hz))]
theorem body_read (s n : Nat) (c : List UInt8) (hs : 16 < s) (h : n * s ≤ c.length) : bodyL (itmsR s n c) = c.take (n * s) := by
  induction n generalizing c with
  | zero => rw [Nat.zero_mul]; rfl
  | succ n ih =>
    rw [Nat.succ_mul] at h ⊢
    have e : bodyL (itmsR s (n + 1) c) = cut c 0 16 ++ cut c (0 + 16) (s - 16) ++ bodyL (itmsR s n (c.drop s)) := rfl
    rw [e, ih _ (by rw [List.length_drop]; omega), Nat.add_comm (n * s) s, List.take_add]
    congr 1
    unfold cut
    rw [List.drop_zero, Nat.zero_add, ← List.take_add, show 16 + (s - 16) = s by omega]
theorem itmsR_len (s n : Nat) (c : List UInt8) : (itmsR s n c).length = n := by
  rw [itmsR_is, List.length_map, List.length_range]
theorem itmsR_each (s n : Nat) (c : List UInt8) (hs : 16 < s) (h : n * s ≤ c.length) : ∀ y ∈ itmsR s n c, y.1.length = 16 ∧ y.2.length = s - 16 := by
  rw [itmsR_is]
  intro y hy
  obtain ⟨i, hi, rfl⟩ := List.mem_map.1 hy
  rw [List.mem_range] at hi
  have : (i + 1) * s ≤ n * s := Nat.mul_le_mul_right _ hi
  rw [Nat.succ_mul] at this
  exact ⟨cut_len _ _ _ (by omega), cut_len _ _ _ (by omega)⟩
/-! ### What a list says of itself -/
theorem right_ne {x : Lst} (h : rightL x = true) : x.2 ≠ [] := by
  unfold rightL at h; rw [Bool.and_eq_true] at h; exact of_decide_eq_true h.1
theorem right_each {x : Lst} (h : rightL x = true) : ∀ y ∈ x.2, mayL x.1 y.2 = true ∧ y.2.length = dl x := by
  unfold rightL at h
  rw [Bool.and_eq_true, List.all_eq_true] at h
  intro y hy
  have := h.2 y hy
  rw [Bool.and_eq_true] at this
  exact ⟨this.1, of_decide_eq_true this.2⟩
theorem right_of {x : Lst} (h0 : x.2 ≠ []) (h : ∀ y ∈ x.2, mayL x.1 y.2 = true ∧ y.2.length = dl x) : rightL x = true := by
  unfold rightL
  rw [Bool.and_eq_true, List.all_eq_true]
  refine ⟨decide_eq_true h0, fun y hy => ?_⟩
  rw [Bool.and_eq_true]
  exact ⟨(h y hy).1, decide_eq_true (h y hy).2⟩
theorem right_kind {x : Lst} (h : rightL x = true) : x.1 = 1 ∨ x.1 = 2 ∨ x.1 = 3 := by
  have h0 := right_ne h
  match hx : x.2, h0 with
  | y :: is, _ => exact may_kind (right_each h y (by rw [hx]; exact List.mem_cons_self ..)).1
theorem right_dl {x : Lst} (h : rightL x = true) : 1 ≤ dl x ∧ dl x ≤ 8192 := by
  have h0 := right_ne h
  match hx : x.2, h0 with
  | y :: is, _ =>
    have := right_each h y (by rw [hx]; exact List.mem_cons_self ..)
    rw [← this.2]; exact may_len this.1
theorem body_len (s : Nat) (is : List Itm) (h : ∀ y ∈ is, y.1.length = 16 ∧ y.2.length = s) : (bodyL is).length = (16 + s) * is.length := by
  induction is with
  | nil => rfl
  | cons y is ih =>
    have hy := h y (List.mem_cons_self ..)
    have e : bodyL (y :: is) = y.1 ++ y.2 ++ bodyL is := rfl
    rw [e, List.length_append, List.length_append, hy.1, hy.2, ih (fun z hz => h z (List.mem_cons_of_mem _ hz)), List.length_cons, Nat.mul_succ]
    omega
theorem lst_len {x : Lst} (h : rightL x = true) (ho : Own16 x) : (lstB x).length = 28 + (16 + dl x) * x.2.length := by
  unfold lstB
  rw [List.length_append, List.length_append, List.length_append, List.length_append, leB_len, leB_len, (guid_kind (right_kind h)).1, body_len (dl x) _ (fun y hy => ⟨ho y hy, (right_each h y hy).2⟩)]
  simp only [List.length_cons, List.length_nil]
  omega
theorem lst_items {x : Lst} (h : rightL x = true) : 1 ≤ x.2.length := by
  have h0 := right_ne h
  match hx : x.2, h0 with
  | y :: is, _ => simp
theorem one_lst {x : Lst} (h : rightL x = true) (ho : Own16 x) (hl : (lstB x).length < 4294967296) (r : List UInt8) : oneQ (lstB x ++ r) = some (x, (lstB x).length) := by
  have hg := guid_kind (right_kind h)
  have hd := right_dl h
  have hn := lst_items h
  have hL := lst_len h ho
  have hm : 16 + dl x ≤ (16 + dl x) * x.2.length := Nat.le_mul_of_pos_right _ hn
  have e : lstB x ++ r = guidL x.1 ++ (leB (28 + (16 + dl x) * x.2.length) 4 ++ ([0, 0, 0, 0] ++ (leB (16 + dl x) 4 ++ (bodyL x.2 ++ r)))) := by
    unfold lstB; simp only [List.append_assoc]
  have c0 : cut (lstB x ++ r) 0 16 = guidL x.1 := by rw [e, cut_here _ _ _ hg.1]
  have c1 : cut (lstB x ++ r) 16 4 = leB (28 + (16 + dl x) * x.2.length) 4 := by
    rw [e, cut_app _ _ _ _ 16 hg.1 (by omega), cut_here _ _ _ (leB_len _ _)]
  have c2 : cut (lstB x ++ r) 20 4 = [0, 0, 0, 0] := by
    rw [e, cut_app _ _ _ _ 16 hg.1 (by omega), cut_app _ _ _ _ 4 (leB_len _ _) (by omega), cut_here _ _ 4 rfl]
  have c3 : cut (lstB x ++ r) 24 4 = leB (16 + dl x) 4 := by
    rw [e, cut_app _ _ _ _ 16 hg.1 (by omega), cut_app _ _ _ _ 4 (leB_len _ _) (by omega), cut_app _ _ _ _ 4 rfl (by omega), cut_here _ _ _ (leB_len _ _)]
  have c4 : (lstB x ++ r).drop 28 = bodyL x.2 ++ r := by
    rw [e, ← List.append_assoc, ← List.append_assoc, ← List.append_assoc, List.drop_append, List.drop_of_length_le (by simp only [List.length_append, leB_len, hg.1, List.length_cons, List.length_nil]; omega), List.nil_append]
    simp only [List.length_append, leB_len, hg.1, List.length_cons, List.length_nil]
    rfl
  unfold oneQ
  rw [if_neg (by rw [List.length_append]; omega)]
  simp only [c0, c1, c2, c3]
  rw [leN_leB4 _ (by omega), leN_leB4 _ (by omega), if_neg (by
    rw [List.length_append, hL, show 28 + (16 + dl x) * x.2.length - 28 = (16 + dl x) * x.2.length by omega, Nat.mul_mod_right]
    have : leN [0, 0, 0, 0] = 0 := by decide
    omega)]
  rw [show 28 + (16 + dl x) * x.2.length - 28 = (16 + dl x) * x.2.length by omega, Nat.mul_div_cancel_left _ (by omega), itmsQ_is, c4, items_read _ (by omega) _ (fun y hy => ⟨ho y hy, by rw [(right_each h y hy).2]; omega⟩), hg.2, if_pos (List.all_eq_true.2 fun y hy => (right_each h y hy).1), hL]
theorem one_read {b : List UInt8} {x : Lst} {n : Nat} (h : oneQ b = some (x, n)) : rightL x = true ∧ Own16 x ∧ lstB x = b.take n ∧ n ≤ b.length ∧ 28 < n := by
  unfold oneQ at h
  split at h
  · cases h
  rename_i h28
  dsimp only at h
  generalize hA : leN (cut b 16 4) = al at h
  generalize hS : leN (cut b 24 4) = s at h
  split at h
  · cases h
  rename_i hc
  split at h
  rotate_left
  · cases h
  rename_i hall
  injection h with h
  injection h with h1 h2
  subst h2
  have hd : (al - 28) / s * s = al - 28 := by
    have := Nat.div_add_mod (al - 28) s
    rw [Nat.mul_comm] at this
    omega
  have hn : 1 ≤ (al - 28) / s := (Nat.one_le_div_iff (by omega)).2 (by omega)
  generalize (al - 28) / s = m at h1 hd hn hall
  have hle : m * s ≤ (b.drop 28).length := by rw [List.length_drop]; omega
  rw [itmsQ_is] at hall h1
  have hE := itmsR_each s m (b.drop 28) (by omega) hle
  have hne : itmsR s m (b.drop 28) ≠ [] := fun h0 => by
    have := itmsR_len s m (b.drop 28)
    rw [h0] at this; simp at this; omega
  have hBR := body_read s m (b.drop 28) (by omega) hle
  have hIL := itmsR_len s m (b.drop 28)
  generalize itmsR s m (b.drop 28) = is at h1 hall hE hne hBR hIL
  subst h1
  rw [List.all_eq_true] at hall
  have hdl : dl (kindL (cut b 0 16), is) = s - 16 := by
    match is, hne, hE with
    | y :: is, _, hE => exact (hE y (List.mem_cons_self ..)).2
  have hk : kindL (cut b 0 16) ≠ 0 := by
    match is, hne, hall with
    | y :: is, _, hall =>
      intro h0
      have := may_kind (hall y (List.mem_cons_self ..))
      rw [h0] at this
      revert this; decide
  refine ⟨right_of hne fun y hy => ⟨hall y hy, by rw [hdl]; exact (hE y hy).2⟩, fun y hy => (hE y hy).1, ?_, by omega, by omega⟩
  unfold lstB
  rw [hdl, kind_guid hk]
  show cut b 0 16 ++ (leB (28 + (16 + (s - 16)) * is.length) 4 ++ ([0, 0, 0, 0] ++ (leB (16 + (s - 16)) 4 ++ bodyL is))) = b.take al
  rw [hIL, show 16 + (s - 16) = s by omega, Nat.mul_comm s m, hd, show 28 + (al - 28) = al by omega, ← hA, leB_leN4 _ (cut_len _ _ _ (by omega)), ← hS, leB_leN4 _ (cut_len _ _ _ (by omega)), ← leN_zero4 (cut b 20 4) (cut_len _ _ _ (by omega)) (by omega), hBR, hd, hA]
  unfold cut
  rw [List.drop_zero, show al = 16 + (4 + (4 + (4 + (al - 28)))) by omega, List.take_add, List.take_add, List.take_add, List.take_add, List.drop_drop, List.drop_drop, List.drop_drop]
  rw [show 16 + (4 + (4 + (4 + (al - 28)))) - 28 = al - 28 by omega]
/-! ### All of the lists -/
theorem readF_any (f : Nat) : ∀ (g : Nat) (b : List UInt8), b.length ≤ f → b.length ≤ g → readF f b = readF g b := by
  induction f with
  | zero =>
    intro g b hf hg
    have : b = [] := List.eq_nil_of_length_eq_zero (by omega)
    subst this
    cases g <;> simp [readF]
  | succ f ih =>
    intro g b hf hg
    cases g with
    | zero =>
      have : b = [] := List.eq_nil_of_length_eq_zero (by omega)
      subst this
      simp [readF]
    | succ g =>
      rw [readF, readF]
      split
      · rfl
      cases h : oneQ b with
      | none => rfl
      | some p =>
        obtain ⟨x, n⟩ := p
        have := one_read h
        dsimp only
        rw [ih g (b.drop n) (by rw [List.length_drop]; omega) (by rw [List.length_drop]; omega)]
theorem read_nil : readQ [] = some [] := rfl
theorem read_none {b : List UInt8} (h0 : b ≠ []) (h : oneQ b = none) : readQ b = none := by
  unfold readQ
  match hb : b.length with
  | 0 => exact absurd (List.eq_nil_of_length_eq_zero hb) h0
  | f + 1 => rw [readF, if_neg h0, h]
theorem read_some {b : List UInt8} {x : Lst} {n : Nat} (h : oneQ b = some (x, n)) : readQ b = (readQ (b.drop n)).map (x :: ·) := by
  have := one_read h
  have h0 : b ≠ [] := fun e => by subst e; simp at this; omega
  unfold readQ
  match hb : b.length with
  | 0 => exact absurd (List.eq_nil_of_length_eq_zero hb) h0
  | f + 1 =>
    rw [readF, if_neg h0, h]
    dsimp only
    rw [readF_any f (b.drop n).length (b.drop n) (by rw [List.length_drop]; omega) (Nat.le_refl _)]
def allB (l : List Lst) : List UInt8 := l.flatMap lstB
theorem allB_cons (x : Lst) (l : List Lst) : allB (x :: l) = lstB x ++ allB l := by unfold allB; rw [List.flatMap_cons]
theorem allB_append (l m : List Lst) : allB (l ++ m) = allB l ++ allB m := by unfold allB; rw [List.flatMap_append]
/-- Each may be a list. -/
def Right (l : List Lst) : Prop := ∀ x ∈ l, rightL x = true ∧ Own16 x
theorem read_write (l : List Lst) (h : Right l) (hl : (allB l).length < 4294967296) : readQ (allB l) = some l := by
  induction l with
  | nil => rfl
  | cons x l ih =>
    rw [allB_cons, List.length_append] at hl
    have hx := h x (List.mem_cons_self ..)
    have := one_lst hx.1 hx.2 (by omega) (allB l)
    rw [allB_cons, read_some this, List.drop_left, ih (fun y hy => h y (List.mem_cons_of_mem _ hy)) (by omega)]
    rfl
theorem write_readF (f : Nat) : ∀ (b : List UInt8) (l : List Lst), readF f b = some l → Right l ∧ allB l = b := by
  induction f with
  | zero =>
    intro b l h
    rw [readF] at h
    split at h
    · injection h with h
      subst h
      rename_i hb
      exact ⟨fun x hx => (List.not_mem_nil hx).elim, by rw [hb]; rfl⟩
    · cases h
  | succ f ih =>
    intro b l h
    rw [readF] at h
    split at h
    · injection h with h
      subst h
      rename_i hb
      exact ⟨fun x hx => (List.not_mem_nil hx).elim, by rw [hb]; rfl⟩
    cases h1 : oneQ b with
    | none => rw [h1] at h; cases h
    | some p =>
      obtain ⟨x, n⟩ := p
      rw [h1] at h
      dsimp only at h
      cases h2 : readF f (b.drop n) with
      | none => rw [h2] at h; cases h
      | some m =>
        rw [h2] at h
        injection h with h
        subst h
        obtain ⟨h3, h4⟩ := ih _ _ h2
        have h5 := one_read h1
        refine ⟨fun y hy => ?_, ?_⟩
        · rcases List.mem_cons.1 hy with rfl | hy
          · exact ⟨h5.1, h5.2.1⟩
          · exact h3 y hy
        · rw [allB_cons, h4, h5.2.2.1, List.take_append_drop]
theorem write_read {b : List UInt8} {l : List Lst} (h : readQ b = some l) : Right l ∧ allB l = b := write_readF _ _ _ h
theorem right_own (l m : List Lst) (hl : Right l) (hm : Right m) (h1 : (allB l).length < 4294967296) (h : allB l = allB m) : l = m := by
  have a := read_write l hl h1
  have b := read_write m hm (by rw [← h]; exact h1)
  rw [h, b] at a
  injection a with a
  exact a.symm
/-! ### A beginning of lists -/
theorem one_short {x : Lst} (h : rightL x = true) (ho : Own16 x) (hl : (lstB x).length < 4294967296) (r : List UInt8) (k : Nat) (hk : k < (lstB x).length) : oneQ ((lstB x ++ r).take k) = none := by
  cases h1 : oneQ ((lstB x ++ r).take k) with
  | none => rfl
  | some p =>
    obtain ⟨y, n⟩ := p
    have h2 := one_read h1
    have hkl : ((lstB x ++ r).take k).length = k := by rw [List.length_take, List.length_append]; omega
    have h3 := one_lst h2.1 h2.2.1 (by rw [h2.2.2.1, List.length_take]; omega) ((lstB x ++ r).drop n)
    have h4 : lstB y = (lstB x ++ r).take n := by rw [h2.2.2.1, List.take_take]; congr 1; omega
    have h5 : lstB y ++ (lstB x ++ r).drop n = lstB x ++ r := by rw [h4, List.take_append_drop]
    rw [h5, one_lst h ho hl r] at h3
    injection h3 with h3
    injection h3 with h6 h7
    rw [h4, List.length_take, List.length_append] at h7
    omega
/-- How far the first i lists go. -/
def endL (l : List Lst) (i : Nat) : Nat := (allB (l.take i)).length
theorem lst_pos {x : Lst} (h : rightL x = true) (ho : Own16 x) : 28 < (lstB x).length := by
  have := lst_len h ho
  have h1 := lst_items h
  have h2 : 16 + dl x ≤ (16 + dl x) * x.2.length := Nat.le_mul_of_pos_right _ h1
  omega
theorem read_take (l : List Lst) (h : Right l) (hl : (allB l).length < 4294967296) : ∀ k, k ≤ (allB l).length →
    (∀ m, readQ ((allB l).take k) = some m → ∃ i, i ≤ l.length ∧ endL l i = k ∧ m = l.take i) := by
  induction l with
  | nil =>
    intro k hk m hm
    have : allB [] = [] := rfl
    rw [this, List.take_nil, read_nil] at hm
    injection hm with hm
    subst hm
    rw [this] at hk
    exact ⟨0, Nat.le_refl _, by unfold endL; rw [List.take_nil, this]; simp at hk ⊢; omega, rfl⟩
  | cons x l ih =>
    intro k hk m hm
    have hx := h x (List.mem_cons_self ..)
    rw [allB_cons, List.length_append] at hl hk
    rcases Nat.lt_or_ge k (lstB x).length with hlt | hge
    · rcases Nat.eq_zero_or_pos k with rfl | hp
      · rw [List.take_zero, read_nil] at hm
        injection hm with hm
        exact ⟨0, Nat.zero_le _, rfl, hm.symm⟩
      · have := one_short hx.1 hx.2 (by omega) (allB l) k hlt
        rw [allB_cons, read_none (fun e => by
          have := congrArg List.length e
          rw [List.length_take, List.length_append, List.length_nil] at this
          omega) this] at hm
        cases hm
    · have e : (lstB x ++ allB l).take k = lstB x ++ (allB l).take (k - (lstB x).length) := by
        rw [List.take_append, List.take_of_length_le hge]
      rw [allB_cons, e, read_some (one_lst hx.1 hx.2 (by omega) _), List.drop_left] at hm
      cases h1 : readQ ((allB l).take (k - (lstB x).length)) with
      | none => rw [h1] at hm; cases hm
      | some m1 =>
        rw [h1] at hm
        injection hm with hm
        obtain ⟨i, hi, he, hmi⟩ := ih (fun y hy => h y (List.mem_cons_of_mem _ hy)) (by omega) (k - (lstB x).length) (by omega) m1 h1
        refine ⟨i + 1, by simp; omega, ?_, ?_⟩
        · unfold endL at he ⊢
          rw [List.take_succ_cons, allB_cons, List.length_append, he]; omega
        · rw [← hm, hmi]; rfl
theorem end_cut (l : List Lst) (i : Nat) : (allB l).take (endL l i) = allB (l.take i) := by
  have : allB l = allB (l.take i) ++ allB (l.drop i) := by rw [← allB_append, List.take_append_drop]
  unfold endL
  rw [this, List.take_left]
theorem read_end (l : List Lst) (h : Right l) (hl : (allB l).length < 4294967296) (i : Nat) : readQ ((allB l).take (endL l i)) = some (l.take i) := by
  rw [end_cut]
  have : (allB (l.take i)).length ≤ (allB l).length := by
    have e : allB l = allB (l.take i) ++ allB (l.drop i) := by rw [← allB_append, List.take_append_drop]
    rw [e, List.length_append]; omega
  exact read_write _ (fun x hx => h x (List.mem_of_mem_take hx)) (by omega)
theorem end_succ (l : List Lst) (i : Nat) (x : Lst) (h : l[i]? = some x) : endL l (i + 1) = endL l i + (lstB x).length := by
  unfold endL
  rw [List.take_add_one, h, allB_append, List.length_append]
  simp [allB]
theorem end_less (l : List Lst) (h : Right l) (i j : Nat) (hij : i < j) (hj : j ≤ l.length) : endL l i < endL l j := by
  induction j with
  | zero => omega
  | succ j ih =>
    have hx : l[j]? = some l[j] := List.getElem?_eq_getElem (by omega)
    have hr := h l[j] (List.getElem_mem _)
    have := lst_pos hr.1 hr.2
    rw [end_succ l j _ hx]
    rcases Nat.lt_or_ge i j with h1 | h1
    · have := ih h1 (by omega); omega
    · have : i = j := by omega
      subst this; omega
/-- Bytes that are turned are not the same lists. -/
theorem read_turned {b c : List UInt8} {l m : List Lst} (h : readQ b = some l) (h1 : readQ c = some m) (hne : b ≠ c) : l ≠ m := by
  rintro rfl
  exact hne ((write_read h).2.symm.trans (write_read h1).2)
/-! ### Merging -/
/-- Items with their kinds. -/
abbrev KI := UInt8 × Itm
def flatK (l : List Lst) : List KI := l.flatMap fun x => x.2.map fun y => (x.1, y)
/-- The items of a list that were not seen, and what is seen then. -/
def freshQ (k : UInt8) : List Itm → List KI → List Itm
  | [], _ => []
  | y :: is, seen => if (k, y) ∈ seen then freshQ k is seen else y :: freshQ k is ((k, y) :: seen)
def seenQ (k : UInt8) : List Itm → List KI → List KI
  | [], seen => seen
  | y :: is, seen => if (k, y) ∈ seen then seenQ k is seen else seenQ k is ((k, y) :: seen)
def mergeQ : List Lst → List KI → List Lst
  | [], _ => []
  | x :: m, seen => if freshQ x.1 x.2 seen = [] then mergeQ m (seenQ x.1 x.2 seen) else (x.1, freshQ x.1 x.2 seen) :: mergeQ m (seenQ x.1 x.2 seen)
theorem seen_mem (k : UInt8) (is : List Itm) (seen : List KI) (z : KI) : z ∈ seenQ k is seen ↔ z ∈ seen ∨ (z.1 = k ∧ z.2 ∈ is) := by
  induction is generalizing seen with
  | nil => simp [seenQ]
  | cons y is ih =>
    rw [seenQ]
    split
    · rename_i h
      rw [ih]
      constructor
      · rintro (h1 | h1)
        · exact .inl h1
        · exact .inr ⟨h1.1, List.mem_cons_of_mem _ h1.2⟩
      · rintro (h1 | ⟨h1, h2⟩)
        · exact .inl h1
        · rcases List.mem_cons.1 h2 with h3 | h3
          · refine .inl ?_
            have : z = (k, y) := Prod.ext h1 h3
            rw [this]; exact h
          · exact .inr ⟨h1, h3⟩
    · rw [ih]
      constructor
      · rintro (h1 | h1)
        · rcases List.mem_cons.1 h1 with rfl | h2
          · exact .inr ⟨rfl, List.mem_cons_self ..⟩
          · exact .inl h2
        · exact .inr ⟨h1.1, List.mem_cons_of_mem _ h1.2⟩
      · rintro (h1 | ⟨h1, h2⟩)
        · exact .inl (List.mem_cons_of_mem _ h1)
        · rcases List.mem_cons.1 h2 with h3 | h3
          · have : z = (k, y) := Prod.ext h1 h3
            exact .inl (by rw [this]; exact List.mem_cons_self ..)
          · exact .inr ⟨h1, h3⟩
theorem fresh_mem (k : UInt8) (is : List Itm) (seen : List KI) (y : Itm) : y ∈ freshQ k is seen ↔ y ∈ is ∧ (k, y) ∉ seen := by
  induction is generalizing seen with
  | nil => simp [freshQ]
  | cons x is ih =>
    rw [freshQ]
    split
    · rename_i h
      rw [ih]
      constructor
      · rintro ⟨h1, h2⟩; exact ⟨List.mem_cons_of_mem _ h1, h2⟩
      · rintro ⟨h1, h2⟩
        rcases List.mem_cons.1 h1 with rfl | h3
        · exact absurd h h2
        · exact ⟨h3, h2⟩
    · rename_i h
      rw [List.mem_cons, ih]
      constructor
      · rintro (rfl | ⟨h1, h2⟩)
        · exact ⟨List.mem_cons_self .., h⟩
        · exact ⟨List.mem_cons_of_mem _ h1, fun h3 => h2 (List.mem_cons_of_mem _ h3)⟩
      · rintro ⟨h1, h2⟩
        by_cases e : y = x
        · exact .inl e
        · refine .inr ⟨(List.mem_cons.1 h1).resolve_left e, fun h3 => ?_⟩
          rcases List.mem_cons.1 h3 with h4 | h4
          · injection h4 with _ h5; exact e h5
          · exact h2 h4
theorem fresh_nodup (k : UInt8) (is : List Itm) (seen : List KI) : (freshQ k is seen).Nodup := by
  induction is generalizing seen with
  | nil => exact List.nodup_nil
  | cons x is ih =>
    rw [freshQ]
    split
    · exact ih _
    · refine List.nodup_cons.2 ⟨fun h => ?_, ih _⟩
      have := (fresh_mem _ _ _ _).1 h
      exact this.2 (List.mem_cons_self ..)
theorem flatK_cons (x : Lst) (l : List Lst) : flatK (x :: l) = (x.2.map fun y => (x.1, y)) ++ flatK l := by unfold flatK; rw [List.flatMap_cons]
theorem flatK_append (l m : List Lst) : flatK (l ++ m) = flatK l ++ flatK m := by unfold flatK; rw [List.flatMap_append]
theorem merge_mem (m : List Lst) (seen : List KI) (z : KI) : z ∈ flatK (mergeQ m seen) ↔ z ∈ flatK m ∧ z ∉ seen := by
  induction m generalizing seen with
  | nil => simp [mergeQ, flatK]
  | cons x m ih =>
    have hs := seen_mem x.1 x.2 seen z
    have key : z ∈ ((freshQ x.1 x.2 seen).map fun y => (x.1, y)) ↔ (z.1 = x.1 ∧ z.2 ∈ x.2) ∧ z ∉ seen := by
      rw [List.mem_map]
      constructor
      · rintro ⟨y, hy, rfl⟩
        have := (fresh_mem _ _ _ _).1 hy
        exact ⟨⟨rfl, this.1⟩, this.2⟩
      · rintro ⟨⟨h1, h2⟩, h3⟩
        have e : z = (x.1, z.2) := Prod.ext h1 rfl
        exact ⟨z.2, (fresh_mem _ _ _ _).2 ⟨h2, by rw [← e]; exact h3⟩, e.symm⟩
    have key2 : z ∈ (x.2.map fun y => (x.1, y)) ↔ (z.1 = x.1 ∧ z.2 ∈ x.2) := by
      rw [List.mem_map]
      constructor
      · rintro ⟨y, hy, rfl⟩; exact ⟨rfl, hy⟩
      · rintro ⟨h1, h2⟩; exact ⟨z.2, h2, (Prod.ext h1 rfl : z = (x.1, z.2)).symm⟩
    rw [flatK_cons, List.mem_append, key2, mergeQ]
    split
    · rename_i h0
      rw [h0] at key
      simp only [List.map_nil, List.not_mem_nil, false_iff] at key
      rw [ih, hs]
      by_cases h1 : z ∈ seen <;> by_cases h2 : z.1 = x.1 ∧ z.2 ∈ x.2 <;> by_cases h3 : z ∈ flatK m <;> simp_all
    · rw [flatK_cons, List.mem_append]
      show (z ∈ ((freshQ x.1 x.2 seen).map fun y => (x.1, y)) ∨ _) ↔ _
      rw [key, ih, hs]
      by_cases h1 : z ∈ seen <;> by_cases h2 : z.1 = x.1 ∧ z.2 ∈ x.2 <;> by_cases h3 : z ∈ flatK m <;> simp_all
theorem merge_nodup (m : List Lst) (seen : List KI) : (flatK (mergeQ m seen)).Nodup := by
  induction m generalizing seen with
  | nil => exact List.nodup_nil
  | cons x m ih =>
    rw [mergeQ]
    split
    · exact ih _
    · rw [flatK_cons]
      refine List.nodup_append.2 ⟨?_, ih _, fun a ha b hb e => ?_⟩
      · exact List.Pairwise.map _ (fun a b hab e => hab (by injection e)) (fresh_nodup _ _ _)
      · subst e
        obtain ⟨y, hy, rfl⟩ := List.mem_map.1 ha
        have h1 := (merge_mem _ _ _).1 hb
        exact h1.2 ((seen_mem _ _ _ _).2 (.inr ⟨rfl, ((fresh_mem _ _ _ _).1 hy).1⟩))
/-- Merging in what is there. -/
theorem merge_self (m : List Lst) (seen : List KI) (h : ∀ z ∈ flatK m, z ∈ seen) : mergeQ m seen = [] := by
  induction m generalizing seen with
  | nil => rfl
  | cons x m ih =>
    rw [flatK_cons] at h
    have h0 : freshQ x.1 x.2 seen = [] := by
      match hf : freshQ x.1 x.2 seen with
      | [] => rfl
      | y :: is =>
        have := (fresh_mem x.1 x.2 seen y).1 (by rw [hf]; exact List.mem_cons_self ..)
        exact absurd (h (x.1, y) (List.mem_append_left _ (List.mem_map.2 ⟨y, this.1, rfl⟩))) this.2
    rw [mergeQ, if_pos h0]
    exact ih _ fun z hz => (seen_mem _ _ _ _).2 (.inl (h z (List.mem_append_right _ hz)))
theorem fresh_right {x : Lst} (h : rightL x = true) (ho : Own16 x) (seen : List KI) (h0 : freshQ x.1 x.2 seen ≠ []) : rightL (x.1, freshQ x.1 x.2 seen) = true ∧ Own16 (x.1, freshQ x.1 x.2 seen) ∧ dl (x.1, freshQ x.1 x.2 seen) = dl x := by
  have hm : ∀ y ∈ freshQ x.1 x.2 seen, y ∈ x.2 := fun y hy => ((fresh_mem _ _ _ _).1 hy).1
  generalize freshQ x.1 x.2 seen = is at h0 hm
  have hd : dl (x.1, is) = dl x := by
    match is, h0, hm with
    | y :: is, _, hm => exact (right_each h y (hm y (List.mem_cons_self ..))).2
  exact ⟨right_of h0 fun y hy => by rw [hd]; exact right_each h y (hm y hy), fun y hy => ho y (hm y hy), hd⟩
theorem merge_right (m : List Lst) (h : Right m) (seen : List KI) : Right (mergeQ m seen) := by
  induction m generalizing seen with
  | nil => exact h
  | cons x m ih =>
    have hx := h x (List.mem_cons_self ..)
    have hm : Right m := fun y hy => h y (List.mem_cons_of_mem _ hy)
    rw [mergeQ]
    split
    · exact ih hm _
    · rename_i h0
      intro z hz
      rcases List.mem_cons.1 hz with rfl | hz
      · have := fresh_right hx.1 hx.2 seen h0
        exact ⟨this.1, this.2.1⟩
      · exact ih hm _ z hz
/-- The merged lists: of lists, and others. -/
def merged (l m : List Lst) : List Lst := l ++ mergeQ m (flatK l)
theorem merged_self (l : List Lst) : merged l l = l := by
  unfold merged; rw [merge_self l _ (fun z hz => hz), List.append_nil]
theorem merged_right {l m : List Lst} (hl : Right l) (hm : Right m) : Right (merged l m) := by
  intro x hx
  rcases List.mem_append.1 hx with h | h
  · exact hl x h
  · exact merge_right m hm _ x h
theorem merged_in (l m : List Lst) (z : KI) (h : z ∈ flatK (merged l m)) : z ∈ flatK l ∨ z ∈ flatK m := by
  unfold merged at h
  rw [flatK_append, List.mem_append, merge_mem] at h
  exact h.imp id And.left
theorem merged_has (l m : List Lst) (z : KI) (h : z ∈ flatK l ∨ z ∈ flatK m) : z ∈ flatK (merged l m) := by
  unfold merged
  rw [flatK_append, List.mem_append, merge_mem]
  by_cases hz : z ∈ flatK l
  · exact .inl hz
  · exact .inr ⟨h.resolve_left hz, hz⟩
theorem merged_count (l m : List Lst) (z : KI) (h : z ∈ flatK (merged l m)) : (flatK (merged l m)).count z = max ((flatK l).count z) 1 := by
  unfold merged at h ⊢
  rw [flatK_append] at h ⊢
  rw [List.count_append]
  have hn := merge_nodup m (flatK l)
  by_cases hz : z ∈ flatK l
  · have h1 : (flatK (mergeQ m (flatK l))).count z = 0 := List.count_eq_zero.2 fun hc => ((merge_mem _ _ _).1 hc).2 hz
    have h2 := List.count_pos_iff.2 hz
    omega
  · have h1 : z ∈ flatK (mergeQ m (flatK l)) := (List.mem_append.1 h).resolve_left hz
    have h2 := List.count_pos_iff.2 h1
    have h3 := List.nodup_iff_count.1 hn z
    have h4 : (flatK l).count z = 0 := List.count_eq_zero.2 hz
    omega
/-! ### What lists have -/
/-- What of an item's data is told. -/
def toldL (k : UInt8) (d : List UInt8) : List UInt8 := if k = 3 then d.take 32 else d
def hasQ (l : List Lst) (k : UInt8) (d : List UInt8) : Bool := l.any fun x => x.2.any fun y => x.1 == k && (toldL k y.2 == d)
end Go.Proofs.YtfampefflkkckaaDoor
