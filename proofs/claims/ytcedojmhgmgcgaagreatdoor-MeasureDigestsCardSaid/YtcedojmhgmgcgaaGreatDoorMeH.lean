/-
  measure: digests beside one another, a state that takes pieces.
-/
import Derived.Test.YtcedojmhgmgcgaaGreatDoorMs5
import Derived.Test.YtcedojmhgmgcgaaGreatDoorMs6
import Derived.Test.YtcedojmhgmgcgaaGreatDoorMeA
namespace Go.Proofs.YtcedojmhgmgcgaaGreatDoor
open Go.RowKit Go
set_option linter.unusedVariables false
set_option linter.unusedSimpArgs false
set_option maxRecDepth 100000
attribute [local go_sem] Oper.semAt_some
def zeroV : V8 := ⟨0, 0, 0, 0, 0, 0, 0, 0⟩
theorem zeroState_eq : zeroState = stCells zeroV (List.replicate 64 0) 0 0 false := by rfl
theorem holds_new (w : World) (g : Nat) (hg : g = w.heap.size) : Holds (w.alloc (.cells zeroState.toArray 79)) g [] 0 :=
  Or.inr ⟨rfl, zeroV, List.replicate 64 0, by rw [← zeroState_eq]; exact has_new' _ _ _ hg, by simp, by intro x hx; rw [(List.mem_replicate.1 hx).2]; decide⟩
theorem Src.of_rb {w : World} {S : Nat} {A : Option Addr} {n : Nat} {bs : List UInt8} (h : RB w A n bs) (hS : w.heap.size ≤ S) {w' : World} (hb : Below w.heap.size w w') : Src w' S A bs := fun hn => by
  obtain ⟨b, off, e, hl, hc⟩ := h.2 hn
  refine ⟨b, off, e, by omega, Nat.lt_of_lt_of_le hl hb.size, fun j hj => ?_⟩
  rw [hb.cell (p := ⟨b, off + j, none⟩) hl]
  exact hc j hj
/-- A piece that begins with a byte is written. -/
theorem write_at (S b off k c : Nat) (p : List Nat) (t : Nat) (bs : List UInt8) (w0 w : World) (hb : Below w0.heap.size w0 w) (hS : w0.heap.size ≤ S) (hH : Holds w S p t) (hbl : b < w0.heap.size) (hc : ∀ j (hj : j < bs.length), w0.cell? ⟨b, off + j, none⟩ = some (bv bs[j])) (hk : bs.length = k) (hk1 : k ≤ 1000000) (hkc : k ≤ c) (hc1 : c ≤ 9223372036854775807) (ht : t + k < 18446744073709551616) :
    Calls Tryz.prog 17 #[.pointer (some ⟨S, 0, none⟩), .slice (some ⟨b, off, none⟩) k c] w fun e w' => e = .returned (.tuple #[]) ∧ Holds w' S (p ++ bs.map UInt8.toNat) (t + k) ∧ Below w0.heap.size w0 w' := by
  have hsrc : Src w S (some ⟨b, off, none⟩) bs := fun hn => ⟨b, off, rfl, by omega, Nat.lt_of_lt_of_le hbl hb.size, fun j hj => by
    rw [hb.cell (p := ⟨b, off + j, none⟩) hbl]
    exact hc j hj⟩
  refine (write_any S _ k c p t bs w hH hsrc hk (by omega) hkc hc1 (by omega)).mono ?_
  rintro e w' ⟨rfl, ho, hg⟩
  rw [Nat.mod_eq_of_lt ht] at ho
  exact ⟨rfl, Or.inl ho, below_of_grown hb hg hS⟩
theorem dig_same (l : List Nat) (h : l.length = 32) (w : World) : (Op.equalIn 10000 25 (.agg (l.map v8).toArray) (.agg (l.map v8).toArray)).run Tryz.prog w = .ok true w := by
  obtain ⟨i, hi⟩ : ∃ i, Tryz.prog.info? 5 = some i := by
    obtain ⟨i, hi, _⟩ := info_parts u8_info
    exact ⟨i, hi⟩
  rw [run_equalIn_array w 9999 _ _ Tryz.underlying25 hi]
  have c6 : Tryz.prog.cellsOf 5 = 1 := by kernel_rfl
  rw [c6]
  have key : ∀ is : List Nat, (∀ j ∈ is, j < 32) → (Op.eqItems 9999 5 1 (l.map v8).toArray (l.map v8).toArray is).run Tryz.prog w = .ok true w := by
    intro is
    induction is with
    | nil => intro _; simp [Op.eqItems]
    | cons j is ih =>
      intro hj
      have hj32 : j < 32 := hj j (by simp)
      have hi2 := ih (fun q hq => hj q (by simp [hq]))
      obtain ⟨p, hp⟩ : ∃ p, l[j]? = some p := ⟨l[j], List.getElem?_eq_getElem (by omega)⟩
      have e1 : (l.map v8).toArray[j * 1]? = some (v8 p) := by simp [hp]
      have r1 := run_part_plain (P := Tryz.prog) w (e := 5) (by kernel_rfl) e1
      have q1 : (Op.equalIn 9999 5 (v8 p) (v8 p)).run Tryz.prog w = .ok true w := by
        simp [go_sem, Tryz.underlying5]
      unfold Op.eqItems
      simp only [Sem.run_bind, r1, Result.andThen_ok, q1]
      simpa using hi2
  exact key _ (fun j hj => by simpa using hj)
def z32 : List Nat := List.replicate 32 0
theorem zero_32 (w : World) : (zeroValue 25).run Tryz.prog w = .ok (.agg (z32.map v8).toArray) w := by kernel_rfl
/-- Are two digests one? -/
theorem dig_eq (l l' : List Nat) (h : l.length = 32) (h' : l'.length = 32) (w : World) : (Op.equalIn 10000 25 (.agg (l.map v8).toArray) (.agg (l'.map v8).toArray)).run Tryz.prog w = .ok (decide (l = l')) w := by
  obtain ⟨i, hi⟩ : ∃ i, Tryz.prog.info? 5 = some i := by
    obtain ⟨i, hi, _⟩ := info_parts u8_info
    exact ⟨i, hi⟩
  rw [run_equalIn_array w 9999 _ _ Tryz.underlying25 hi]
  have c6 : Tryz.prog.cellsOf 5 = 1 := by kernel_rfl
  rw [c6]
  have key : ∀ is : List Nat, (∀ j ∈ is, j < 32) → (Op.eqItems 9999 5 1 (l.map v8).toArray (l'.map v8).toArray is).run Tryz.prog w = .ok (is.all fun j => l[j]? == l'[j]?) w := by
    intro is
    induction is with
    | nil => intro _; simp [Op.eqItems]
    | cons j is ih =>
      intro hj
      have hj32 : j < 32 := hj j (by simp)
      have hi2 := ih (fun q hq => hj q (by simp [hq]))
      obtain ⟨p, hp⟩ : ∃ p, l[j]? = some p := ⟨l[j], List.getElem?_eq_getElem (by omega)⟩
      obtain ⟨q, hq⟩ : ∃ q, l'[j]? = some q := ⟨l'[j], List.getElem?_eq_getElem (by omega)⟩
      have e1 : (l.map v8).toArray[j * 1]? = some (v8 p) := by simp [hp]
      have e2 : (l'.map v8).toArray[j * 1]? = some (v8 q) := by simp [hq]
      have r1 := run_part_plain (P := Tryz.prog) w (e := 5) (by kernel_rfl) e1
      have r2 := run_part_plain (P := Tryz.prog) w (e := 5) (by kernel_rfl) e2
      have q1 : (Op.equalIn 9999 5 (v8 p) (v8 q)).run Tryz.prog w = .ok (decide (p = q)) w := by
        simp [go_sem, Tryz.underlying5]
        rw [Bool.eq_iff_iff, beq_iff_eq, decide_eq_true_iff]
        omega
      unfold Op.eqItems
      simp only [Sem.run_bind, r1, r2, Result.andThen_ok, q1]
      rw [List.all_cons, hp, hq]
      by_cases hpq : p = q
      · subst hpq
        simpa using hi2
      · have hne : (some p == some q) = false := by simpa using hpq
        rw [hne]
        simp [hpq]
  rw [key _ (by intro j hj; simpa using hj)]
  congr 1
  rw [Bool.eq_iff_iff, List.all_eq_true, decide_eq_true_iff]
  constructor
  · intro hall
    apply List.ext_getElem?
    intro j
    by_cases hj : j < 32
    · have := hall j (by simpa using hj)
      simpa using this
    · rw [List.getElem?_eq_none (by omega), List.getElem?_eq_none (by omega)]
  · rintro rfl j _
    simp
theorem results_cct {P : Program} {fn : Func} {w : World} {ty ty2 : TypeId} {p q u : Tmp} (h : fn.results = #[.cell p ty, .cell q ty2, .tmp u]) (tmps : Array Value) {v v2 : Value} (hp : LV P w ty (tmps.getD p undef) v) (hq : LV P w ty2 (tmps.getD q undef) v2) :
    (results fn tmps).run P w = .ok (.tuple #[v, v2, tmps.getD u undef]) w := by
  obtain ⟨a, w1, h1, h2⟩ := hp
  obtain ⟨b, w2, h3, h4⟩ := hq
  rw [Array.getD_eq_getD_getElem?] at h1 h3
  simp only [results, h]
  simp [Sem.run_bind, h1, h2, h3, h4, Result.andThen]
theorem hashed_snoc (bs : List UInt8) (l : List (Nat × Nat)) (x : Nat × Nat) : hashedL bs (l ++ [x]) = hashedL bs l ++ seg bs x := by
  unfold hashedL
  rw [List.flatMap_append]
  simp
theorem seg_le (bs : List UInt8) (x : Nat × Nat) : (seg bs x).length ≤ bs.length := by
  unfold seg cut
  rw [List.length_take, List.length_drop]
  omega
theorem hashed_le (bs : List UInt8) : ∀ l : List (Nat × Nat), (hashedL bs l).length ≤ l.length * bs.length
  | [] => by simp [hashedL]
  | x :: r => by
    have h1 := hashed_le bs r
    have h2 := seg_le bs x
    have h3 : hashedL bs (x :: r) = seg bs x ++ hashedL bs r := rfl
    rw [h3, List.length_append, List.length_cons, Nat.add_mul]
    omega
end Go.Proofs.YtcedojmhgmgcgaaGreatDoor
