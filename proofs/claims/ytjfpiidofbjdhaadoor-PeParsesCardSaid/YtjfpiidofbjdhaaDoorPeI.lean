/-
  pe: what an image's bytes say, as plain data.
-/
import Derived.Test.YtjfpiidofbjdhaaDoorPeF
import Derived.Test.YtjfpiidofbjdhaaDoorPeH
namespace Go.Proofs.YtjfpiidofbjdhaaDoor
open Go.RowKit Go
set_option linter.unusedVariables false
set_option maxRecDepth 100000
/-- The chain, from the front. -/
def chainR : List (Nat × Nat) → Nat → Bool × Nat
  | [], e => (true, e)
  | x :: r, e => (decide (x.1 = e) && (chainR r (x.1 + x.2)).1, (chainR r (x.1 + x.2)).2)
theorem chain_fold : ∀ (l : List (Nat × Nat)) (b : Bool) (e : Nat), l.foldl (fun s x => (s.1 && decide (x.1 = s.2), x.1 + x.2)) (b, e) = (b && (chainR l e).1, (chainR l e).2)
  | [], b, e => by simp [chainR]
  | x :: r, b, e => by
    rw [List.foldl_cons, chain_fold r]
    simp [chainR, Bool.and_assoc]
theorem chainS_eq (l : List (Nat × Nat)) (e : Nat) : chainS l e = chainR l e := by
  unfold chainS
  rw [chain_fold]
  simp
theorem chainR_ge : ∀ (l : List (Nat × Nat)) (e : Nat), (chainR l e).1 = true → ∀ y ∈ l, e ≤ y.1
  | [], e, _, y, hy => by cases hy
  | x :: r, e, h, y, hy => by
    simp only [chainR, Bool.and_eq_true, decide_eq_true_eq] at h
    rcases List.mem_cons.1 hy with rfl | hy
    · omega
    · have := chainR_ge r _ h.2 y hy
      omega
theorem chain_unique : ∀ (l l' : List (Nat × Nat)) (e : Nat), l.Perm l' → l'.Pairwise (fun a b => a.1 ≤ b.1) → (∀ x ∈ l, 0 < x.2) → (chainR l e).1 = true → l' = l
  | [], l', e, hp, _, _, _ => List.Perm.nil_eq hp ▸ rfl
  | x :: r, l', e, hp, hs, hz, hc => by
    have hc' := hc
    simp only [chainR, Bool.and_eq_true, decide_eq_true_eq] at hc
    cases l' with
    | nil => exact absurd hp.length_eq (by simp)
    | cons y s =>
      have hxy : y = x := by
        have hy : y ∈ x :: r := hp.mem_iff.2 (List.mem_cons_self ..)
        rcases List.mem_cons.1 hy with h | h
        · exact h
        · have h1 := chainR_ge r _ hc.2 y h
          have h2 := hz x (List.mem_cons_self ..)
          have hx : x ∈ y :: s := hp.mem_iff.1 (List.mem_cons_self ..)
          rcases List.mem_cons.1 hx with h3 | h3
          · exact h3.symm
          · have := (List.pairwise_cons.1 hs).1 x h3
            omega
      subst hxy
      rw [chain_unique r s _ (List.Perm.cons_inv hp) (List.pairwise_cons.1 hs).2 (fun z hz' => hz z (List.mem_cons_of_mem _ hz')) hc.2]
/-- The sections, by where they lie. -/
def riseL (l : List (Nat × Nat)) : List (Nat × Nat) := l.mergeSort fun a b => decide (a.1 ≤ b.1)
theorem riseL_perm (l : List (Nat × Nat)) : (riseL l).Perm l := List.mergeSort_perm l _
theorem riseL_sorted (l : List (Nat × Nat)) : (riseL l).Pairwise fun a b => a.1 ≤ b.1 := by
  have := List.pairwise_mergeSort (le := fun a b : Nat × Nat => decide (a.1 ≤ b.1)) (by intro a b c; simp; omega) (by intro a b; simp; omega) l
  exact this.imp (fun h => by simpa using h)
theorem chain_same (l l' : List (Nat × Nat)) (e : Nat) (hp : l'.Perm l) (hs : l'.Pairwise fun a b => a.1 ≤ b.1) (hz : ∀ x ∈ l, 0 < x.2) :
    (chainS l' e).1 = (chainS (riseL l) e).1 ∧ ((chainS (riseL l) e).1 = true → l' = riseL l) := by
  rw [chainS_eq, chainS_eq]
  have hq : (riseL l).Perm l' := (riseL_perm l).trans hp.symm
  have hz1 : ∀ x ∈ riseL l, 0 < x.2 := fun x hx => hz x ((riseL_perm l).mem_iff.1 hx)
  have hz2 : ∀ x ∈ l', 0 < x.2 := fun x hx => hz x (hp.mem_iff.1 hx)
  refine ⟨?_, fun h => chain_unique _ _ e hq hs hz1 h⟩
  cases h1 : (chainR (riseL l) e).1 with
  | true => rw [chain_unique _ _ e hq hs hz1 h1, h1]
  | false =>
    cases h2 : (chainR l' e).1 with
    | false => rfl
    | true =>
      rw [chain_unique _ _ e hq.symm (riseL_sorted l) hz2 h2, h2] at h1
      cases h1
theorem chainR_le : ∀ (l : List (Nat × Nat)) (e B : Nat), e ≤ B → (∀ x ∈ l, x.1 + x.2 ≤ B) → (chainR l e).2 ≤ B
  | [], e, B, h, _ => h
  | x :: r, e, B, h, hx => chainR_le r _ B (hx x (List.mem_cons_self ..)) (fun y hy => hx y (List.mem_cons_of_mem _ hy))
theorem chainS_le (l : List (Nat × Nat)) (e : Nat) (he : e ≤ 8589934592) (hx : ∀ x ∈ l, x.1 < 4294967296 ∧ x.2 < 4294967296) : (chainS l e).2 ≤ 8589934592 := by
  rw [chainS_eq]
  exact chainR_le l e _ he (fun x h => by have := hx x h; omega)
/-- What is read of an image. -/
structure Im where
  plus : Bool
  check : Nat
  dir : Nat
  hdr : Nat
  secs : List (Nat × Nat)
  table : Nat
  length : Nat
  sigs : List (List UInt8)
def dirQ (bs : List UInt8) : Nat := dirsQ bs + 32
def secsQ (bs : List UInt8) : List (Nat × Nat) := secN bs (tabQ bs) (cntQ bs)
def endQ (bs : List UInt8) : Nat := (chainS (riseL (secsQ bs)) (hdrQ bs)).2
def secB (bs : List UInt8) : Bool := secIn bs (tabQ bs) (cntQ bs) && (chainS (riseL (secsQ bs)) (hdrQ bs)).1 && decide (endQ bs ≤ bs.length)
def dirB (bs : List UInt8) : Bool := inQ bs (dirQ bs) 4 && inQ bs (dirQ bs + 4) 4
def ctQ (bs : List UInt8) : Nat := numQ bs (dirQ bs) 4
def clQ (bs : List UInt8) : Nat := numQ bs (dirQ bs + 4) 4
def imOf (bs : List UInt8) (t l : Nat) (sigs : List (List UInt8)) : Im := ⟨decide (magQ bs = 523), optQ bs + 64, dirQ bs, hdrQ bs, secsQ bs, t, l, sigs⟩
/-- What Parse tells: an error's number, or an image. -/
def parseQ (bs : List UInt8) : Nat ⊕ Im :=
  if 16777216 < bs.length then .inl 10
  else if (hdB bs && secB bs && dirB bs) = false then .inl 9
  else if ctQ bs = 0 ∧ clQ bs = 0 then .inr (imOf bs 0 0 [])
  else if sgB bs.length (ctQ bs) (clQ bs) (endQ bs) = false then .inl 9
  else match rowsQ bs (ctQ bs) with
    | none => .inl 9
    | some l => if 8 < l.length then .inl 10 else .inr (imOf bs (ctQ bs) (clQ bs) l)
def imVal (im : Im) (V : Option Addr) (m cV : Nat) (U : Option Addr) (k cU : Nat) : Array Value :=
  #[.bool im.plus, .int .i64 (im.check : Nat), .int .i64 (im.dir : Nat), .int .u32 (im.hdr : Nat), .slice V m cV, .int .u32 (im.table : Nat), .int .u32 (im.length : Nat), .slice U k cU]
def imZero : Array Value := #[.bool false, .int .i64 0, .int .i64 0, .int .u32 0, .slice none 0 0, .int .u32 0, .int .u32 0, .slice none 0 0]
/-- An image as it lies in memory: its sections in a row of their own, its signatures in a row of their own, each in memory of its own. -/
structure ImOwn (base : Nat) (im : Im) (V : Option Addr) (m cV : Nat) (U : Option Addr) (k cU : Nat) (xs : List Own1) (W : World) : Prop where
  ml : m = im.secs.length
  secs : OwnR W base 43 2 V m cV (im.secs.flatMap secCells)
  kl : k = xs.length
  bytes : xs.map (fun x => x.2.2.2) = im.sigs
  sigs : OwnR W base 22 1 U k cU (xs.map Own1.val)
  own : SigsOwn base xs W
def ParsePost (w : World) (bs : List UInt8) (e : Ending) (w' : World) : Prop :=
  (match parseQ bs with
    | .inl er => e = .returned (.tuple #[.agg imZero, .int .i64 (er : Nat)])
    | .inr im => ∃ (V : Option Addr) (m cV : Nat) (U : Option Addr) (k cU : Nat) (xs : List Own1), e = .returned (.tuple #[.agg (imVal im V m cV U k cU), .int .i64 0]) ∧ ImOwn w.heap.size im V m cV U k cU xs w') ∧ Below w.heap.size w w'
end Go.Proofs.YtjfpiidofbjdhaaDoor
