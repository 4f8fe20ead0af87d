/-
  vname: Split of any bytes; the document's Split (made by genVnK.py).
-/
import Derived.Test.YtjcbmgpmlekamaaVnI
import Derived.Test.YtjcbmgpmlekamaaVnJ
namespace Go.Proofs.Ytjcbmgpmlekamaa
open Go.RowKit Go
set_option linter.unusedVariables false
set_option linter.unusedSimpArgs false
set_option maxRecDepth 100000
def zG : List UInt8 := List.replicate 16 0
def zA : Array Value := #[.int .u8 0, .int .u8 0, .int .u8 0, .int .u8 0, .int .u8 0, .int .u8 0, .int .u8 0, .int .u8 0, .int .u8 0, .int .u8 0, .int .u8 0, .int .u8 0, .int .u8 0, .int .u8 0, .int .u8 0, .int .u8 0]
theorem zA_eq : gv zG = zA := by kernel_rfl
/-- Is that a key? -/
def keyB (bs : List UInt8) : Bool := decide (16 ≤ bs.length) && rightL (bs.drop 16)
/-- What Split answers. -/
def splitV (bs : List UInt8) : Value := if keyB bs = true then .tuple #[.string (strOf (bs.drop 16)), .agg (gv (bs.take 16)), .bool true] else .tuple #[.string ⟨#[]⟩, .agg zA, .bool false]
theorem conv_t {W : World} {b off n : Nat} {bs : List UInt8} (h : RB W (some ⟨b, off, none⟩) n bs) (h16 : 16 ≤ n) (x : Nat) (hx : x = off + 16 ∨ n = 16) (cap : Nat) : (convert 24 9 (.slice (some ⟨b, x, none⟩) (n - 16) cap)).run Try.prog W = .ok (.string (strOf (bs.drop 16))) W := by
  have hl : (bs.drop 16).length = n - 16 := by rw [List.length_drop, h.1]
  rw [← hl]
  refine run_strOf W W.heap.size _ _ cap (fun hne => ?_)
  have hn : n ≠ 16 := fun h9 => hne (List.length_eq_zero_iff.1 (by rw [hl]; omega))
  have hx : x = off + 16 := by rcases hx with hx | hx <;> omega
  obtain ⟨b', off', e, h1, h2⟩ := h.2 (fun h9 => by rw [h9] at hl; simp at hl; omega)
  injection e with e
  injection e with e1 e2
  subst e1 e2 hx
  refine ⟨_, _, rfl, h1, fun k hk => ?_⟩
  have h3 := h2 (16 + k) (by rw [List.length_drop] at hk; omega)
  rw [← Nat.add_assoc] at h3
  rw [h3]
  simp
set_option maxHeartbeats 4000000 in
theorem split_full (A : Option Addr) (n c base : Nat) (bs : List UInt8) (w : World) (h : OwnB w base A n c bs) (hn : n ≤ 4096) :
    Calls Try.prog 12 #[.slice A n c] w fun e w' => e = .returned (splitV bs) ∧ Below w.heap.size w w' := by
  have hlen := h.len
  have hcap := h.cap
  by_cases h16 : n < 16
  · have hk : keyB bs = false := by unfold keyB; rw [decide_eq_false (by omega)]; rfl
    have hv : splitV bs = .tuple #[.string ⟨#[]⟩, .agg zA, .bool false] := by unfold splitV; rw [hk]; rfl
    rw [hv]
    have i1 : decide ((n : Int) < 16) = true := decide_eq_true (by omega)
    clear hk hv h hlen hcap hn
    go_enter Try.func12, Try.ntmps12
    go_wp2
    refine bodyPost_ret (results_tct Try.results12 _ (LV.agg (has_new _ _) Try.underlying23 rfl (by kernel_rfl))) rfl ?_
    exact ⟨rfl, kp_alloc (Below.refl _ _) _⟩
  obtain ⟨b, rfl, hb1, hb2⟩ := h.shape (by omega)
  have hs : rightL (bs.drop 16) = keyB bs := by unfold keyB; rw [decide_eq_true (by omega)]; rfl
  cases hk : keyB bs with
  | false =>
    have hv : splitV bs = .tuple #[.string ⟨#[]⟩, .agg zA, .bool false] := by unfold splitV; rw [hk]; rfl
    rw [hv]
    have RT := Lib.hid (fun W => right_any (strOf (bs.drop 16)) (by rw [strOf_size, List.length_drop]; omega) W)
    rw [strOf_data, hs, hk] at RT
    have i1 : decide ((n : Int) < 16) = false := decide_eq_false (by omega)
    have i3 : 16 ≤ n := by omega
    have i4 : (16 : Int) ≤ (n : Int) := by omega
    have i5 : (n : Int) ≤ (c : Int) := by omega
    by_cases i2 : c = 16
    · have k1 := conv_t (h.rb.alloc (.cells zA 23)) i3
      have k0 := fun cap => k1 0 (.inr (by omega)) cap
      unfold zA at k0
      clear k1 hk hv h hlen hcap hs hb1 hb2
      generalize strOf (bs.drop 16) = sx at *
      go_enter Try.func12, Try.ntmps12
      go_wp2_with fail
      refine (RT.out _).mono ?_
      rintro e w2 ⟨rfl, hw2⟩
      subst w2
      go_wp2
      refine bodyPost_ret (results_tct Try.results12 _ (LV.agg (has_new _ _) Try.underlying23 rfl (by kernel_rfl))) rfl ?_
      exact ⟨rfl, kp_alloc (Below.refl _ _) _⟩
    · have k1 := conv_t (h.rb.alloc (.cells zA 23)) i3
      have k2 := fun cap => k1 16 (.inl (by omega)) cap
      unfold zA at k2
      clear k1 hk hv h hlen hcap hs hb1 hb2
      generalize strOf (bs.drop 16) = sx at *
      go_enter Try.func12, Try.ntmps12
      go_wp2_with fail
      refine (RT.out _).mono ?_
      rintro e w2 ⟨rfl, hw2⟩
      subst w2
      go_wp2
      refine bodyPost_ret (results_tct Try.results12 _ (LV.agg (has_new _ _) Try.underlying23 rfl (by kernel_rfl))) rfl ?_
      exact ⟨rfl, kp_alloc (Below.refl _ _) _⟩
  | true =>
    have hv : splitV bs = .tuple #[.string (strOf (bs.drop 16)), .agg (gv (bs.take 16)), .bool true] := by unfold splitV; rw [hk]; rfl
    rw [hv]
    have hr : RB w (some ⟨b, 0, none⟩) n (bs.take 16 ++ (strOf (bs.drop 16)).data.toList) := by
      rw [strOf_data, List.take_append_drop]
      exact h.rb
    exact split_any (strOf (bs.drop 16)) (by rw [strOf_data, hs, hk]) (bs.take 16) (by rw [List.length_take]; omega) b n c hcap.1 hcap.2 w hr
end Go.Proofs.Ytjcbmgpmlekamaa
