/-
  sha: the words behind whole blocks; a state that holds bytes.
-/
import Derived.Test.YtmbkbehccmadfaaShM
import Derived.Test.YtmbkbehccmadfaaShT
namespace Go.Proofs.Ytmbkbehccmadfaa
open Go.RowKit Go
set_option linter.unusedVariables false
set_option linter.unusedSimpArgs false
set_option maxRecDepth 100000
/-- The words behind the first n blocks. -/
def hashN (u : V8) (bs : List Nat) : Nat → V8
  | 0 => u
  | n + 1 => blockW (hashN u bs n) K0 ((bs.drop (64 * n)).take 64)
theorem hashN_ok (u : V8) (bs : List Nat) (hu : u.Ok) : ∀ n, (hashN u bs n).Ok
  | 0 => hu
  | n + 1 => addV_ok _ _
theorem hashN_pre (u : V8) (xs ys : List Nat) : ∀ n, 64 * n ≤ xs.length → hashN u (xs ++ ys) n = hashN u xs n
  | 0, _ => rfl
  | n + 1, h => by
    unfold hashN
    rw [hashN_pre u xs ys n (by omega), List.drop_append_of_le_length (by omega), List.take_append_of_le_length (by rw [List.length_drop]; omega)]
/-- The rest, once bytes are copied in. -/
def restIn (rb : List Nat) (f : Nat) (cs : List Nat) : List Nat := rb.take f ++ (cs ++ rb.drop (f + cs.length))
theorem restIn_len (rb cs : List Nat) (f : Nat) (h : f + cs.length ≤ rb.length) : (restIn rb f cs).length = rb.length := by
  unfold restIn
  simp
  omega
theorem restIn_take (rb cs : List Nat) (f : Nat) (h : f + cs.length ≤ rb.length) : (restIn rb f cs).take (f + cs.length) = rb.take f ++ cs := by
  unfold restIn
  rw [← List.append_assoc, List.take_append_of_le_length (by simp; omega), List.take_of_length_le (by simp; omega)]
theorem restIn_byte (rb cs : List Nat) (f : Nat) (h1 : ∀ x ∈ rb, x < 256) (h2 : ∀ x ∈ cs, x < 256) : ∀ x ∈ restIn rb f cs, x < 256 := by
  intro x hx
  unfold restIn at hx
  rcases List.mem_append.1 hx with h | h
  · exact h1 x (List.mem_of_mem_take h)
  · rcases List.mem_append.1 h with h | h
    · exact h2 x h
    · exact h1 x (List.mem_of_mem_drop h)
theorem rest_more (p cs rb : List Nat) (hr : rb.length = 64) (ht : rb.take (p.length % 64) = p.drop (64 * (p.length / 64))) (hf : p.length % 64 + cs.length ≤ 64) :
    (restIn rb (p.length % 64) cs).take (p.length % 64 + cs.length) = (p ++ cs).drop (64 * (p.length / 64)) := by
  rw [restIn_take _ _ _ (by omega), ht, List.drop_append_of_le_length (by omega)]
theorem more_part (p cs : List Nat) (hf : p.length % 64 + cs.length < 64) : (p ++ cs).length / 64 = p.length / 64 ∧ (p ++ cs).length % 64 = p.length % 64 + cs.length ∧ hashN H0v (p ++ cs) (p.length / 64) = hashN H0v p (p.length / 64) := by
  refine ⟨by simp; omega, by simp; omega, hashN_pre _ _ _ _ (by omega)⟩
theorem more_full (p cs rb : List Nat) (hr : rb.length = 64) (ht : rb.take (p.length % 64) = p.drop (64 * (p.length / 64))) (hf : p.length % 64 + cs.length = 64) :
    (p ++ cs).length / 64 = p.length / 64 + 1 ∧ (p ++ cs).length % 64 = 0 ∧ hashN H0v (p ++ cs) (p.length / 64 + 1) = blockW (hashN H0v p (p.length / 64)) K0 (restIn rb (p.length % 64) cs) := by
  refine ⟨by simp; omega, by simp; omega, ?_⟩
  have h1 := rest_more p cs rb hr ht (by omega)
  rw [hf, List.take_of_length_le (by rw [restIn_len _ _ _ (by omega)]; omega)] at h1
  rw [h1, hashN, hashN_pre _ _ _ _ (by omega), List.take_of_length_le (by simp; omega)]
/-- The state in block S has begun and holds the bytes p. -/
def OpenSt (w : World) (S : Nat) (p : List Nat) (total : Nat) : Prop :=
  ∃ rb : List Nat, ArrIs w S 39 (stCells (hashN H0v p (p.length / 64)) rb (p.length % 64) total true) ∧ rb.length = 64 ∧ (∀ x ∈ rb, x < 256) ∧ rb.take (p.length % 64) = p.drop (64 * (p.length / 64))
theorem K0_ok : K0.length = 64 ∧ ∀ x ∈ K0, x < 4294967296 := by
  have h : (K0.length == 64 && K0.all (fun x => decide (x < 4294967296))) = true := by kernel_rfl
  rw [Bool.and_eq_true] at h
  exact ⟨eq_of_beq h.1, fun x hx => of_decide_eq_true ((List.all_eq_true.1 h.2) x hx)⟩
theorem H0v_ok : H0v.Ok := ⟨by decide, by decide, by decide, by decide, by decide, by decide, by decide, by decide⟩
/-- The law of a block as 'Write' calls it. -/
theorem step_K0 (u : V8) (bs : List Nat) (hu : u.Ok) (hl : bs.length = 64) (hb : ∀ x ∈ bs, x < 256) (w : World) :
    Calls Try.prog 29 #[.agg (u.list.map v32).toArray, .agg (bs.map v8).toArray, .agg (K0.map v32).toArray] w fun e w' => e = .returned (.agg ((blockW u K0 bs).list.map v32).toArray) ∧ Below w.heap.size w w' :=
  step_any u K0 bs hu K0_ok.1 K0_ok.2 hl hb w
end Go.Proofs.Ytmbkbehccmadfaa
