/-
  bank: what stands in a bank, as plain data.
-/
import Derived.Test.YtkajlbdiofobcaaDoorOctA
import Derived.Test.YtkajlbdiofobcaaDoorOctB1
import Derived.Test.YtkajlbdiofobcaaDoorOctC1
import Derived.Test.YtkajlbdiofobcaaDoorCrcM
namespace Go.Proofs.YtkajlbdiofobcaaDoor
open Go.RowKit Go
set_option linter.unusedVariables false
set_option linter.unusedSimpArgs false
set_option maxRecDepth 100000
/-- A record as it stands: how many bytes of the body the key has, the body, whether it lives. -/
structure RD where
  key : Nat
  body : List UInt8
  lives : Bool
/-- How many bytes it has. -/
def RD.len (r : RD) : Nat := 12 + r.body.length
def sumR (h body : List UInt8) : BitVec 32 := ext (ext 0#32 (cut h 1 7)) body
/-- The record that stands whole at the beginning of these bytes. -/
def recQ (L : List UInt8) : Option RD :=
  if L.length < 12 then none
  else if ¬ ((L.getD 0 0 = 252 ∨ L.getD 0 0 = 248) ∧ L.getD 1 0 = 165) then none
  else if ¬ (1 ≤ leN (cut L 2 2) ∧ leN (cut L 2 2) ≤ 255 ∧ leN (cut L 4 4) ≤ 65536) then none
  else if L.length < 12 + (leN (cut L 2 2) + leN (cut L 4 4)) then none
  else if (sumR L (cut L 12 (leN (cut L 2 2) + leN (cut L 4 4)))).toNat = leN (cut L 8 4) then some ⟨leN (cut L 2 2), cut L 12 (leN (cut L 2 2) + leN (cut L 4 4)), decide (L.getD 0 0 = 252)⟩
  else none
/-- What a record that was read is within. -/
structure RecOk (L : List UInt8) (r : RD) : Prop where
  k1 : 1 ≤ r.key
  k2 : r.key ≤ 255
  kb : r.key ≤ r.body.length
  vb : r.body.length ≤ r.key + 65536
  len : r.len ≤ L.length
theorem recQ_ok {L : List UInt8} {r : RD} (h : recQ L = some r) : RecOk L r := by
  unfold recQ at h
  split at h
  · cases h
  split at h
  · cases h
  split at h
  · cases h
  split at h
  · cases h
  split at h
  · injection h with h
    subst h
    rename_i h1 h2 h3 h4 h5
    have hl : (cut L 12 (leN (cut L 2 2) + leN (cut L 4 4))).length = leN (cut L 2 2) + leN (cut L 4 4) := cut_len _ _ _ (by omega)
    exact ⟨by show 1 ≤ leN (cut L 2 2); omega, by show leN (cut L 2 2) ≤ 255; omega, by show leN (cut L 2 2) ≤ _; rw [hl]; omega, by show (cut L 12 (leN (cut L 2 2) + leN (cut L 4 4))).length ≤ leN (cut L 2 2) + 65536; rw [hl]; omega, by show 12 + _ ≤ _; rw [hl]; omega⟩
  · cases h
/-- From the place p on stand these records, up to the place q. -/
inductive Got (X : List UInt8) : Nat → List (Nat × RD) → Nat → Prop
  | nil (p : Nat) : Got X p [] p
  | cons {p q : Nat} {r : RD} {l : List (Nat × RD)} (h : recQ (X.drop p) = some r) (t : Got X (p + r.len) l q) : Got X p ((p, r) :: l) q
theorem Got.snoc {X : List UInt8} {p q : Nat} {l : List (Nat × RD)} (h : Got X p l q) {r : RD} (hr : recQ (X.drop q) = some r) : Got X p (l ++ [(q, r)]) (q + r.len) := by
  induction h with
  | nil p => exact .cons hr (.nil _)
  | cons h _ ih => exact .cons h (ih hr)
theorem Got.append {X : List UInt8} {p q s : Nat} {l m : List (Nat × RD)} (h : Got X p l q) (k : Got X q m s) : Got X p (l ++ m) s := by
  induction h with
  | nil p => exact k
  | cons h _ ih => exact .cons h (ih k)
theorem Got.le {X : List UInt8} {p q : Nat} {l : List (Nat × RD)} (h : Got X p l q) (hp : p ≤ X.length) : q ≤ X.length ∧ p + 13 * l.length ≤ q := by
  induction h with
  | nil p => exact ⟨hp, by simp⟩
  | @cons p q r l h t ih =>
    have ho := recQ_ok h
    have h1 := ho.len
    have h2 := ho.k1
    have h3 := ho.kb
    rw [List.length_drop] at h1
    unfold RD.len at h1 ih
    obtain ⟨h4, h5⟩ := ih (by omega)
    refine ⟨h4, ?_⟩
    rw [List.length_cons]
    omega
/-- What each of them is. -/
theorem Got.mem {X : List UInt8} {p q : Nat} {l : List (Nat × RD)} (h : Got X p l q) (hp : p ≤ X.length) : ∀ x ∈ l, p ≤ x.1 ∧ recQ (X.drop x.1) = some x.2 ∧ RecOk (X.drop x.1) x.2 ∧ x.1 + x.2.len ≤ X.length := by
  induction h with
  | nil p => intro x hx; cases hx
  | @cons p q r l h t ih =>
    have ho := recQ_ok h
    have h1 := ho.len
    have hk := ho.k1
    have hb := ho.kb
    rw [List.length_drop] at h1
    have hl0 : 13 ≤ r.len := by unfold RD.len; omega
    have h2 : p + r.len ≤ X.length := by omega
    intro x hx
    rcases List.mem_cons.1 hx with rfl | hx
    · exact ⟨Nat.le_refl _, h, ho, h2⟩
    · obtain ⟨a, b⟩ := ih h2 x hx
      exact ⟨by omega, b⟩
/-- There is one way only. -/
theorem Got.one {X : List UInt8} {p q s : Nat} {l m : List (Nat × RD)} (h : Got X p l q) (hq : recQ (X.drop q) = none) (k : Got X p m s) (hs : recQ (X.drop s) = none) : l = m ∧ q = s := by
  induction h generalizing m s with
  | nil p =>
    cases k with
    | nil => exact ⟨rfl, rfl⟩
    | cons h _ => rw [hq] at h; cases h
  | cons h t ih =>
    cases k with
    | nil => rw [hs] at h; cases h
    | cons h' t' =>
      rw [h] at h'
      injection h' with h'
      subst h'
      obtain ⟨rfl, rfl⟩ := ih hq t' hs
      exact ⟨rfl, rfl⟩
/-- The bank's records and their end. -/
structure Scan (X : List UInt8) (l : List (Nat × RD)) (e : Nat) : Prop where
  got : Got X 16 l e
  stop : recQ (X.drop e) = none
def wholeB (X : List UInt8) (e : Nat) : Bool := decide (X.length ≤ e) || X.getD e 0 == 255
/-! ### What was laid -/
/-- A record that is to be laid: key, value, whether it lives. -/
structure RL where
  key : List UInt8
  val : List UInt8
  lives : Bool
def headL (k v : Nat) : List UInt8 := [165] ++ leB k 2 ++ leB v 4
def tailL (key val : List UInt8) : List UInt8 := headL key.length val.length ++ leB (ext 0#32 (headL key.length val.length ++ key ++ val)).toNat 4 ++ key ++ val
def RL.st (r : RL) : UInt8 := if r.lives then 252 else 248
def RL.lay (r : RL) : List UInt8 := r.st :: tailL r.key r.val
structure RL.ok (r : RL) : Prop where
  k1 : 1 ≤ r.key.length
  k2 : r.key.length ≤ 255
  v2 : r.val.length ≤ 65536
def RL.rd (r : RL) : RD := ⟨r.key.length, r.key ++ r.val, r.lives⟩
theorem headL_len (k v : Nat) : (headL k v).length = 7 := by simp [headL, leB_len]
theorem tailL_len (k v : List UInt8) : (tailL k v).length = 11 + k.length + v.length := by simp [tailL, headL_len, leB_len]; omega
theorem lay_len (r : RL) : r.lay.length = 12 + r.key.length + r.val.length := by unfold RL.lay; rw [List.length_cons, tailL_len]; omega
theorem rd_len (r : RL) : r.rd.len = r.lay.length := by unfold RL.rd RD.len; rw [lay_len, List.length_append]; show 12 + (_ + _) = _; omega
theorem nb_toNat (x i : Nat) : (nb x i).toNat = x / 256 ^ i % 256 := by unfold nb; rw [UInt8.toNat_ofNat']
theorem leN_nil : leN [] = 0 := rfl
theorem leN_leB2 (x : Nat) (h : x < 65536) : leN (leB x 2) = x := by
  have : leB x 2 = [nb x 0] ++ [nb x 1] := rfl
  rw [this, leN_snoc, ← List.nil_append [nb x 0], leN_snoc, leN_nil, nb_toNat, nb_toNat]
  simp only [List.length_nil, List.length_cons, List.nil_append]
  omega
theorem leN_leB4 (x : Nat) (h : x < 4294967296) : leN (leB x 4) = x := by
  have : leB x 4 = (([nb x 0] ++ [nb x 1]) ++ [nb x 2]) ++ [nb x 3] := rfl
  rw [this, leN_snoc, leN_snoc, leN_snoc, ← List.nil_append [nb x 0], leN_snoc, leN_nil, nb_toNat, nb_toNat, nb_toNat, nb_toNat]
  simp only [List.length_nil, List.length_cons, List.nil_append, List.length_append]
  omega
theorem cut_at (pre m post : List UInt8) (a k : Nat) (ha : pre.length = a) (hk : m.length = k) : cut (pre ++ m ++ post) a k = m := by
  unfold cut
  rw [List.append_assoc, List.drop_append_of_le_length (by omega), ← ha, List.drop_length, List.nil_append, List.take_append_of_le_length (by omega), ← hk, List.take_length]
theorem recQ_lay (r : RL) (h : r.ok) (rest : List UInt8) : recQ (r.lay ++ rest) = some r.rd := by
  obtain ⟨k1, k2, v2⟩ := h
  obtain ⟨s4, hs4⟩ : ∃ s4, (ext 0#32 (headL r.key.length r.val.length ++ r.key ++ r.val)) = s4 := ⟨_, rfl⟩
  have hL : r.lay ++ rest = [r.st] ++ [165] ++ leB r.key.length 2 ++ leB r.val.length 4 ++ leB s4.toNat 4 ++ (r.key ++ r.val) ++ rest := by
    unfold RL.lay tailL headL
    rw [show leB (ext 0#32 (([165] ++ leB r.key.length 2 ++ leB r.val.length 4) ++ r.key ++ r.val)).toNat 4 = leB s4.toNat 4 by rw [← hs4]; rfl]
    simp
  have c2 : cut (r.lay ++ rest) 2 2 = leB r.key.length 2 := by
    rw [hL, show [r.st] ++ [165] ++ leB r.key.length 2 ++ leB r.val.length 4 ++ leB s4.toNat 4 ++ (r.key ++ r.val) ++ rest = ([r.st] ++ [165]) ++ leB r.key.length 2 ++ (leB r.val.length 4 ++ leB s4.toNat 4 ++ (r.key ++ r.val) ++ rest) by simp]
    exact cut_at _ _ _ _ _ rfl (leB_len _ _)
  have c4 : cut (r.lay ++ rest) 4 4 = leB r.val.length 4 := by
    rw [hL, show [r.st] ++ [165] ++ leB r.key.length 2 ++ leB r.val.length 4 ++ leB s4.toNat 4 ++ (r.key ++ r.val) ++ rest = ([r.st] ++ [165] ++ leB r.key.length 2) ++ leB r.val.length 4 ++ (leB s4.toNat 4 ++ (r.key ++ r.val) ++ rest) by simp]
    exact cut_at _ _ _ _ _ (by simp [leB_len]) (leB_len _ _)
  have c8 : cut (r.lay ++ rest) 8 4 = leB s4.toNat 4 := by
    rw [hL, show [r.st] ++ [165] ++ leB r.key.length 2 ++ leB r.val.length 4 ++ leB s4.toNat 4 ++ (r.key ++ r.val) ++ rest = ([r.st] ++ [165] ++ leB r.key.length 2 ++ leB r.val.length 4) ++ leB s4.toNat 4 ++ ((r.key ++ r.val) ++ rest) by simp]
    exact cut_at _ _ _ _ _ (by simp [leB_len]) (leB_len _ _)
  have c1 : cut (r.lay ++ rest) 1 7 = headL r.key.length r.val.length := by
    rw [hL, show [r.st] ++ [165] ++ leB r.key.length 2 ++ leB r.val.length 4 ++ leB s4.toNat 4 ++ (r.key ++ r.val) ++ rest = [r.st] ++ headL r.key.length r.val.length ++ (leB s4.toNat 4 ++ (r.key ++ r.val) ++ rest) by simp [headL]]
    exact cut_at _ _ _ _ _ rfl (headL_len _ _)
  have c12 : cut (r.lay ++ rest) 12 (r.key.length + r.val.length) = r.key ++ r.val := by
    rw [hL, show [r.st] ++ [165] ++ leB r.key.length 2 ++ leB r.val.length 4 ++ leB s4.toNat 4 ++ (r.key ++ r.val) ++ rest = ([r.st] ++ [165] ++ leB r.key.length 2 ++ leB r.val.length 4 ++ leB s4.toNat 4) ++ (r.key ++ r.val) ++ rest by simp]
    exact cut_at _ _ _ _ _ (by simp [leB_len]) (by simp)
  have g0 : (r.lay ++ rest).getD 0 0 = r.st := rfl
  have g1 : (r.lay ++ rest).getD 1 0 = 165 := rfl
  have hlen : (r.lay ++ rest).length = 12 + r.key.length + r.val.length + rest.length := by rw [List.length_append, lay_len]
  unfold recQ sumR
  rw [c2, c4, c8, c1, g0, g1, hlen, leN_leB2 _ (by omega), leN_leB4 _ (by omega), leN_leB4 _ s4.isLt, c12, ext_append]
  rw [show headL r.key.length r.val.length ++ (r.key ++ r.val) = headL r.key.length r.val.length ++ r.key ++ r.val by simp, hs4]
  have hst : r.st = 252 ∨ r.st = 248 := by unfold RL.st; split <;> simp
  have hd : decide (r.st = 252) = r.lives := by unfold RL.st; cases r.lives <;> rfl
  rw [if_neg (by omega), if_neg (by simp [hst]), if_neg (by omega), if_neg (by omega), if_pos rfl, hd]
  rfl
theorem recQ_st {L : List UInt8} (h : L.getD 0 0 ≠ 252 ∧ L.getD 0 0 ≠ 248) : recQ L = none := by
  unfold recQ
  split
  · rfl
  · rw [if_pos (by intro hc; rcases hc.1 with h1 | h1 <;> simp_all)]
/-- Bytes of a bank: the head, records that were laid, and more. -/
def layAll (rs : List RL) : List UInt8 := rs.flatMap RL.lay
/-- The records, with their places from p on. -/
def placed : Nat → List RL → List (Nat × RD)
  | _, [] => []
  | p, r :: rs => (p, r.rd) :: placed (p + r.lay.length) rs
theorem placed_len : ∀ (rs : List RL) (p : Nat), (placed p rs).length = rs.length
  | [], _ => rfl
  | r :: rs, p => by simp [placed, placed_len rs]
theorem layAll_snoc (rs : List RL) (r : RL) : layAll (rs ++ [r]) = layAll rs ++ r.lay := by simp [layAll]
theorem got_laid : ∀ (rs : List RL) (pre rest : List UInt8), (∀ r ∈ rs, r.ok) → Got (pre ++ layAll rs ++ rest) pre.length (placed pre.length rs) (pre.length + (layAll rs).length)
  | [], pre, rest, _ => Got.nil _
  | r :: rs, pre, rest, h => by
    have h1 := got_laid rs (pre ++ r.lay) rest (fun x hx => h x (List.mem_cons_of_mem _ hx))
    have e1 : pre ++ layAll (r :: rs) ++ rest = pre ++ r.lay ++ layAll rs ++ rest := by simp [layAll]
    have e2 : (layAll (r :: rs)).length = r.lay.length + (layAll rs).length := by simp [layAll]
    rw [← e1, List.length_append] at h1
    rw [e2, ← Nat.add_assoc]
    refine Got.cons (r := r.rd) ?_ ?_
    · rw [e1, List.append_assoc, List.append_assoc, List.drop_append_of_le_length (Nat.le_refl _), List.drop_length, List.nil_append]
      exact recQ_lay r (h r List.mem_cons_self) _
    · rw [rd_len]; exact h1
theorem scan_laid (rs : List RL) (hd rest : List UInt8) (hh : hd.length = 16) (h : ∀ r ∈ rs, r.ok) (hr : recQ rest = none) : Scan (hd ++ layAll rs ++ rest) (placed 16 rs) (16 + (layAll rs).length) := by
  have h1 := got_laid rs hd rest h
  rw [hh] at h1
  refine ⟨h1, ?_⟩
  rw [List.drop_append, List.drop_eq_nil_of_le (by rw [List.length_append]; omega), List.nil_append, List.length_append, hh, Nat.sub_self, List.drop_zero]
  exact hr
theorem recQ_free (k : Nat) : recQ (List.replicate k 255) = none := by
  rcases Nat.eq_zero_or_pos k with rfl | hk
  · rfl
  · obtain ⟨j, rfl⟩ : ∃ j, k = j + 1 := ⟨k - 1, by omega⟩
    exact recQ_st ⟨by simp [List.replicate_succ], by simp [List.replicate_succ]⟩
end Go.Proofs.YtkajlbdiofobcaaDoor
