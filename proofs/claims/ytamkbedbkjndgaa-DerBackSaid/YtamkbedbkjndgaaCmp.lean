/-
  bytes.Compare, and the document's ahead: bytes in the order of texts.
-/
import Derived.Test.YtamkbedbkjndgaaRef
import Derived.Lib.Bytealg
import Derived.Lib.UnsafeStr
import Derived.Laws.Entries
import Derived.Lib.BytesEntry
namespace Go.Proofs.Ytamkbedbkjndgaa
open Go.RowKit Go
set_option linter.unusedVariables false
set_option linter.unusedSimpArgs false
set_option maxRecDepth 100000
theorem run_bytesOf (A : Option Addr) (n c : Nat) (bs : List UInt8) (w : World) (h : RB w A n bs) : (Extern.Bytes.bytesOf (.slice A n c)).run Try.prog w = .ok ⟨bs.toArray⟩ w := by
  obtain ⟨rfl, hb⟩ := h
  rcases A with _ | ad
  · have hn : bs = [] := by
      rcases bs with _ | ⟨q, r⟩
      · rfl
      · obtain ⟨b, off, e, _⟩ := hb (by simp)
        cases e
    subst hn
    rfl
  · have hx : ∀ (j : Nat) (x : Int), (bs.map fun q => (q.toNat : Int))[j]? = some x → w.cell? (ad.add j) = some (.int .u8 x) := by
      intro j x hj
      obtain ⟨b, off, e, _, hc⟩ := hb (by rintro rfl; simp at hj)
      injection e with e
      subst e
      have hjl : j < bs.length := by
        rcases Nat.lt_or_ge j bs.length with h | h
        · exact h
        · rw [List.getElem?_eq_none (by simpa using h)] at hj; cases hj
      rw [List.getElem?_map, List.getElem?_eq_getElem hjl] at hj
      injection hj with hj
      have hadd : (⟨b, off, none⟩ : Addr).add j = ⟨b, off + j, none⟩ := by unfold Addr.add; split <;> simp_all
      rw [hadd, hc j hjl, ← hj]
    have h1 := Lib.run_loadBytesX (P := Try.prog) w (bs.map fun q => (q.toNat : Int)) ad .empty hx
    rw [List.length_map] at h1
    have hbo : Lib.bytesOf (bs.map fun q => (q.toNat : Int)) = bs := by
      unfold Lib.bytesOf
      rw [List.map_map]
      have : ∀ l : List UInt8, l.map ((fun n : Int => n.toNat.toUInt8) ∘ fun q : UInt8 => (q.toNat : Int)) = l := fun l => by
        induction l with
        | nil => rfl
        | cons q r ih => simp only [List.map_cons, ih]; congr 1; simp
      exact this bs
    rw [hbo] at h1
    show (Extern.Bytes.loadBytes ad bs.length .empty).run Try.prog w = _
    rw [h1]
    congr 1
    apply ByteArray.ext
    show (#[] : Array UInt8) ++ bs.toArray = bs.toArray
    simp
theorem run_cmp (A B : Option Addr) (n c m k : Nat) (xs ys : List UInt8) (w : World) (h1 : RB w A n xs) (h2 : RB w B m ys) :
    (Extern.BytealgCompare.compare #[.slice A n c, .slice B m k]).run Try.prog w = .ok (.int .i64 (Lib.compareBytes xs ys)) w := by
  change Sem.run Try.prog (do pure (goInt (Extern.BytealgCompare.cmp (← Extern.Bytes.bytesOf (.slice A n c)) (← Extern.Bytes.bytesOf (.slice B m k))))) w = _
  simp only [Sem.run_bind, run_bytesOf A n c xs w h1, run_bytesOf B m k ys w h2, Sem.run_pure, Result.andThen]
  rw [Lib.cmp_eq]
  rfl
theorem compare_any (A B : Option Addr) (n c m k : Nat) (xs ys : List UInt8) (w : World) (h1 : RB w A n xs) (h2 : RB w B m ys) :
    Calls Try.prog 40 #[.slice A n c, .slice B m k] w fun e w' => e = .returned (.int .i64 (Lib.compareBytes xs ys)) ∧ w = w' := by
  have R := run_cmp A B n c m k xs ys w h1 h2
  go_enter Try.func40, Try.ntmps40
  go_wp2
  rw [run_callFunc_extern Try.func51 (by kernel_rfl) (by kernel_rfl) (by kernel_rfl) (e := Extern.BytealgCompare.compare) (by kernel_rfl), R]
  simp only [Result.andThen]
  rw [Oper.upon_value]
  go_wp2
  go_ret
  exact ⟨rfl, rfl⟩
theorem less_cmp : ∀ (xs ys : List UInt8), Op.bytesLess xs ys = decide (Lib.compareBytes xs ys < 0)
  | [], [] => by simp [Op.bytesLess, Lib.compareBytes]
  | [], _ :: _ => by simp [Op.bytesLess, Lib.compareBytes]
  | _ :: _, [] => by simp [Op.bytesLess, Lib.compareBytes]
  | a :: x, b :: y => by
    have ih := less_cmp x y
    simp only [Op.bytesLess, Lib.compareBytes]
    by_cases h : a < b
    · simp [h]
    · by_cases h2 : b < a
      · have hne : (a == b) = false := by
          simp only [beq_eq_false_iff_ne]
          rintro rfl
          exact h h2
        simp [h, h2, hne]
      · have heq : a = b := by
          apply UInt8.toNat_inj.1
          have h3 : ¬ a.toNat < b.toNat := fun e => h (UInt8.lt_iff_toNat_lt.2 e)
          have h4 : ¬ b.toNat < a.toNat := fun e => h2 (UInt8.lt_iff_toNat_lt.2 e)
          omega
        subst heq
        simp [h, ih]
theorem ahead_any (A B : Option Addr) (n c m k : Nat) (xs ys : List UInt8) (w : World) (h1 : RB w A n xs) (h2 : RB w B m ys) :
    Calls Try.prog 41 #[.slice A n c, .slice B m k] w fun e w' => e = .returned (.bool (decide (Lib.compareBytes xs ys < 0))) ∧ w = w' := by
  obtain ⟨rfl, h1⟩ := h1
  obtain ⟨rfl, h2⟩ := h2
  have e1 := run_strOf w _ A xs c h1
  have e2 := run_strOf w _ B ys k h2
  have t1 := strOf_toList xs
  have t2 := strOf_toList ys
  go_enter Try.func41, Try.ntmps41
  go_wp2
  rw [less_cmp]
  go_ret
  exact ⟨rfl, rfl⟩
end Go.Proofs.Ytamkbedbkjndgaa
