/-
  sha: the document's roots.
-/
import Derived.Test.YtmbkbehccmadfaaShX3
namespace Go.Proofs.Ytmbkbehccmadfaa
open Go.RowKit Go
set_option linter.unusedVariables false
set_option linter.unusedSimpArgs false
set_option maxRecDepth 100000
/-- Bisection. -/
def bisQ (f : Nat → Bool) : Nat → Nat → Nat → Nat
  | 0, lo, _ => lo
  | k + 1, lo, hi => if 1 < hi - lo then (if f ((lo + hi) / 2) then bisQ f k lo ((lo + hi) / 2) else bisQ f k ((lo + hi) / 2) hi) else lo
def limbs (x : Nat) : List Nat := [x % 4294967296, x / 4294967296 % 4294967296]
/-- The power of a number of two limbs. -/
def powQ (l : List Nat) : Nat → List Nat
  | 0 => l
  | i + 1 => timesQ (powQ l i) l
def wantQ (p n : Nat) : List Nat := (List.replicate (2 * n) 0).set n p
def rootF (p n x : Nat) : Bool := abvQ (powQ (limbs x) (n - 1)) (wantQ p n) (2 * n)
def rootQ (p n : Nat) : Nat := bisQ (rootF p n) 37 0 137438953472 % 4294967296
theorem limbs_ok (x : Nat) : (limbs x).length = 2 ∧ ∀ y ∈ limbs x, y < 4294967296 := by
  refine ⟨rfl, fun y hy => ?_⟩
  unfold limbs at hy
  simp only [List.mem_cons, List.not_mem_nil, or_false] at hy
  rcases hy with rfl | rfl
  · exact Nat.mod_lt _ (by decide)
  · exact Nat.mod_lt _ (by decide)
theorem times_ok (xs ys : List Nat) : (timesQ xs ys).length = xs.length + ys.length ∧ ∀ y ∈ timesQ xs ys, y < 4294967296 := tOut_ok xs ys _
theorem pow_ok (x : Nat) : ∀ i, (powQ (limbs x) i).length = 2 * (i + 1) ∧ ∀ y ∈ powQ (limbs x) i, y < 4294967296
  | 0 => limbs_ok x
  | i + 1 => by
    have h := times_ok (powQ (limbs x) i) (limbs x)
    refine ⟨?_, h.2⟩
    show (timesQ _ _).length = _
    rw [h.1, (pow_ok x i).1, (limbs_ok x).1]
    omega
theorem want_ok (p n : Nat) (hp : p < 4294967296) : (wantQ p n).length = 2 * n ∧ ∀ y ∈ wantQ p n, y < 4294967296 := by
  refine ⟨by unfold wantQ; simp, set_lt (fun x hx => by rw [(List.mem_replicate.1 hx).2]; decide) hp⟩
set_option maxHeartbeats 8000000 in
theorem root_any (p n : Nat) (hp : p < 4294967296) (hn : 1 ≤ n) (hn2 : n ≤ 10) (w : World) :
    Calls Try.prog 31 #[.int .u32 (p : Int), .int .i64 (n : Int)] w fun e w' => e = .returned (.int .u32 (rootQ p n : Nat)) ∧ Below w.heap.size w w' := by
  obtain ⟨G, hG⟩ : ∃ G, w.heap.size = G := ⟨_, rfl⟩
  have HG := Lib.hid hG
  have e1 : IntKind.i64.wrap (2 * (n : Int)) = 2 * (n : Int) := IntWalk.i64_in _ (by omega)
  obtain ⟨d, hd⟩ : ∃ d, 2 * n = d := ⟨_, rfl⟩
  have e2 : 2 * (n : Int) = (d : Int) := by omega
  go_enter Try.func31, Try.ntmps31
  go_wp2_with (refine wpList_mkR u32_row _ _ rfl rfl _ _ _ _ d rfl rfl (by omega) (by omega) (by unfold maxLen; omega) (by omega) ?_)
  intro w1 hown1 hg1
  rw [toList_madeCells_one] at hown1
  have hown2 : OwnU w1 G (some ⟨G, 0, none⟩) d d (List.replicate d 0) := by
    unfold OwnU
    rw [List.map_replicate]
    exact hown1
  have cO := hown2.cellAt n 0 (by rw [List.getElem?_replicate, if_pos (by omega)])
  have fO := OwnR.free hown2 n
  have H1 : Hid (OwnU (w1.setCell ⟨G, n, none⟩ (.int .u32 (p : Int))) G (some ⟨G, 0, none⟩) d d (wantQ p n) ∧ Below G w (w1.setCell ⟨G, n, none⟩ (.int .u32 (p : Int)))) := by
    refine ⟨?_, ?_⟩
    · unfold wantQ
      rw [hd]
      exact hown2.store n p
    · have hb : Below G w w1 := (Below.refl G w).grown hg1 (by omega) (by intro g hg; cases hg)
      exact hb.setCell (Nat.le_refl _) _
  have i1 : (n : Int) < (d : Int) := by omega
  clear hown1 hown2 hg1
  go_wp2_with fail
  go_loopw [6, 7] (fun va vb wl => ∃ k lo hi : Nat, va = .int .u64 (lo : Int) ∧ vb = .int .u64 (hi : Int) ∧ lo ≤ hi ∧ hi ≤ 137438953472 ∧ hi - lo ≤ 2 ^ k ∧ Hid (bisQ (rootF p n) 37 0 137438953472 = bisQ (rootF p n) k lo hi ∧ OwnU wl G (some ⟨G, 0, none⟩) d d (wantQ p n) ∧ Below G w wl)) (fun va vb _ => (intOf vb - intOf va).toNat)
  case atStart => exact ⟨37, 0, 137438953472, rfl, rfl, by omega, by omega, by decide, rfl, H1.out⟩
  case round =>
    obtain ⟨k, lo, hi, rfl, rfl, hlh, hh, hk, HK⟩ := hrel
    clear H1 cO fO
    have e3 : IntKind.u64.wrap ((hi : Int) - (lo : Int)) = (hi : Int) - (lo : Int) := by rw [IntKind.wrap_u64]; omega
    by_cases hgt : 1 < hi - lo
    · obtain ⟨k, rfl⟩ : ∃ k', k = k' + 1 := by
        cases k with
        | zero => exact absurd hk (by simp; omega)
        | succ k => exact ⟨k, rfl⟩
      have i2 : (hi : Int) - (lo : Int) > 1 := by omega
      obtain ⟨x, hx⟩ : ∃ x, (lo + hi) / 2 = x := ⟨_, rfl⟩
      have e4 : IntKind.u64.wrap ((lo : Int) + (hi : Int)) = (lo : Int) + (hi : Int) := by rw [IntKind.wrap_u64]; omega
      have e5 : ((lo : Int) + (hi : Int)) / 2 = (x : Int) := by omega
      have e6 : IntKind.u32.wrap (x : Int) = ((x % 4294967296 : Nat) : Int) := by rw [IntKind.wrap_u32]; omega
      obtain ⟨xl, hxl⟩ : ∃ xl, x % 4294967296 = xl := ⟨_, rfl⟩
      obtain ⟨xd, hxd⟩ : ∃ xd, x / 4294967296 = xd := ⟨_, rfl⟩
      have e7 : (x : Int) / 4294967296 = (xd : Int) := by omega
      obtain ⟨xh, hxh⟩ : ∃ xh, xd % 4294967296 = xh := ⟨_, rfl⟩
      have e8 : IntKind.u32.wrap (xd : Int) = (xh : Int) := by rw [IntKind.wrap_u32]; omega
      rw [hxl] at e6
      have HX : Hid (limbs x = [xl, xh]) := by unfold Hid limbs; rw [hxd, hxl, hxh]
      have hp2 : 2 ^ (k + 1) = 2 * 2 ^ k := by rw [Nat.pow_succ, Nat.mul_comm]
      have b1 : x - lo ≤ 2 ^ k := by omega
      have b2 : hi - x ≤ 2 ^ k := by omega
      have b3 : lo ≤ x ∧ x ≤ hi ∧ x < hi ∧ lo < x := by omega
      have HB : Hid (bisQ (rootF p n) (k + 1) lo hi = if rootF p n x then bisQ (rootF p n) k lo x else bisQ (rootF p n) k x hi) := by unfold Hid; rw [bisQ, if_pos hgt, hx]
      have hxl32 : xl < 4294967296 := by omega
      have hxh32 : xh < 4294967296 := by omega
      clear hx hxl hxd hxh hp2 hk e1 e2
      go_wp2_with fail
      rw [e5]
      clear e5 e4
      refine wp_nm fun W2 hW2 => ?_
      obtain ⟨gl, hgl⟩ : ∃ gl, wr.heap.size = gl := ⟨_, rfl⟩
      have hlit : OwnR W2 gl 32 1 (some ⟨gl, 0, none⟩) 2 2 ([xl, xh].map v32) := by rw [← hW2, ← hgl]; exact OwnR.lit wr _ 1 #[v32 xl, v32 xh] 2 (by unfold maxLen; omega) rfl
      have H2 : Hid (∃ ny, ny = 2 * (0 + 1) ∧ ReadR W2 (some ⟨gl, 0, none⟩) ((powQ (limbs x) 0).map v32) ∧ ReadR W2 (some ⟨gl, 0, none⟩) ((limbs x).map v32) ∧ OwnU W2 G (some ⟨G, 0, none⟩) d d (wantQ p n) ∧ Below G w W2) := by
        refine ⟨2, rfl, by show ReadR W2 _ ((limbs x).map v32); rw [HX.out]; exact hlit.reads, by rw [HX.out]; exact hlit.reads, ?_, ?_⟩
        · rw [← hW2]; exact OwnR.alloc HK.out.2.1 _
        · rw [← hW2]; exact HK.out.2.2.alloc (by have := HK.out.2.2.size; omega) _
      clear hW2 hlit
      rw [hgl]
      clear hgl
      go_loopw [10, 11] (fun vy vi wl => ∃ j ny cy : Nat, ∃ Ay : Option Addr, vy = .slice Ay ny cy ∧ vi = .int .i64 ((j : Int) + 1) ∧ j + 1 ≤ n ∧ ny ≤ 20 ∧ Hid (ny = 2 * (j + 1) ∧ ReadR wl Ay ((powQ (limbs x) j).map v32) ∧ ReadR wl (some ⟨gl, 0, none⟩) ((limbs x).map v32) ∧ OwnU wl G (some ⟨G, 0, none⟩) d d (wantQ p n) ∧ Below G w wl)) (fun _ vi _ => n - (intOf vi).toNat)
      case atStart =>
        obtain ⟨ny, rfl, h2⟩ := H2.out
        exact ⟨0, 2, 2, some ⟨gl, 0, none⟩, rfl, rfl, by omega, by omega, rfl, h2⟩
      case round =>
        obtain ⟨j, ny, cy, Ay, rfl, rfl, hj, hny, HJ⟩ := hrel
        clear H2
        obtain ⟨q0, q2, q3, q4, q5⟩ := HJ.out
        by_cases hjn : j + 1 < n
        · have i3 : (j : Int) + 1 < (n : Int) := by omega
          have e9 : IntKind.i64.wrap ((j : Int) + 1 + 1) = (j : Int) + 1 + 1 := IntWalk.i64_in _ (by omega)
          have TA := Lib.hid (times_any Ay (some ⟨gl, 0, none⟩) ny cy 2 2 (powQ (limbs x) j) (limbs x) wr q2 q3 (by rw [(pow_ok x j).1, q0]) (limbs_ok x).1 (pow_ok x j).2 (limbs_ok x).2 (by omega) (by omega) (by omega))
          have hs : G ≤ wr.heap.size := by have := q5.size; omega
          have Q0 := Lib.hid q0
          clear q0
          go_wp2_with fail
          with_reducible refine TA.out.mono ?_
          rintro e w8 ⟨rfl, ho8, hb8⟩
          have HN : Hid (ny + 2 = 2 * (j + 1 + 1) ∧ ReadR w8 (some ⟨wr.heap.size, 0, none⟩) ((powQ (limbs x) (j + 1)).map v32) ∧ ReadR w8 (some ⟨gl, 0, none⟩) ((limbs x).map v32) ∧ OwnU w8 G (some ⟨G, 0, none⟩) d d (wantQ p n) ∧ Below G w w8) :=
            ⟨by have := Q0.out; omega, OwnR.reads ho8, q3.below hb8 (Nat.le_refl _), OwnR.below q4 hb8 (Nat.le_refl _), q5.trans (hb8.mono hs)⟩
          clear q2 q3 q4 q5 ho8 hb8 TA HJ
          go_wp2
          go_roundw
          case rel => exact ⟨j + 1, ny + 2, ny + 2, some ⟨wr.heap.size, 0, none⟩, rfl, by go_num, by omega, by have := Q0.out; omega, HN.out⟩
          case measure => simp [intOf]; omega
        · have i3 : ¬ (j : Int) + 1 < (n : Int) := by omega
          obtain rfl : ny = d := by omega
          have q1 := HK.out.1
          have AB := Lib.hid (above_any Ay (some ⟨G, 0, none⟩) ny cy ny (powQ (limbs x) j) (wantQ p n) wr q2 (OwnR.reads q4) (by rw [(pow_ok x j).1, q0]) (by rw [(want_ok p n hp).1]; omega) (by omega) (pow_ok x j).2 (want_ok p n hp).2)
          obtain ⟨fb, hfb⟩ : ∃ fb, abvQ (powQ (limbs x) j) (wantQ p n) ny = fb := ⟨_, rfl⟩
          have HFB : Hid (rootF p n x = fb) := by unfold Hid rootF; rw [← hfb, ← hd, show n - 1 = j by omega]
          rw [hfb] at AB
          have hs : G ≤ wr.heap.size := by have := q5.size; omega
          clear hfb q0
          go_wp2_with fail
          with_reducible refine AB.out.mono ?_
          rintro e w9 ⟨rfl, hb9⟩
          have q7 := q5.trans (hb9.mono hs)
          have q8 := OwnR.below q4 hb9 (Nat.le_refl _)
          clear q2 q3 q4 q5 hb9 AB HJ
          cases fb with
          | true =>
            have HN : Hid (bisQ (rootF p n) 37 0 137438953472 = bisQ (rootF p n) k lo x ∧ OwnU w9 G (some ⟨G, 0, none⟩) ny ny (wantQ p n) ∧ Below G w w9) := ⟨by rw [q1, HB.out, HFB.out]; rfl, q8, q7⟩
            clear q1 q7 q8
            go_wp2
            go_roundw
            case rel => exact ⟨k, lo, x, rfl, rfl, by omega, by omega, b1, HN.out⟩
            case measure => simp [intOf]; omega
          | false =>
            have HN : Hid (bisQ (rootF p n) 37 0 137438953472 = bisQ (rootF p n) k x hi ∧ OwnU w9 G (some ⟨G, 0, none⟩) ny ny (wantQ p n) ∧ Below G w w9) := ⟨by rw [q1, HB.out, HFB.out]; rfl, q8, q7⟩
            clear q1 q7 q8
            go_wp2
            go_roundw
            case rel => exact ⟨k, x, hi, rfl, rfl, by omega, by omega, b2, HN.out⟩
            case measure => simp [intOf]; omega
    · have i2 : ¬ (hi : Int) - (lo : Int) > 1 := by omega
      have e6 : IntKind.u32.wrap (lo : Int) = ((rootQ p n : Nat) : Int) := by
        have hq : bisQ (rootF p n) k lo hi = lo := by
          cases k with
          | zero => rfl
          | succ k => rw [bisQ, if_neg hgt]
        unfold rootQ
        rw [HK.out.1, hq, IntKind.wrap_u32]
        omega
      go_wp2
      go_ret
      exact ⟨rfl, HK.out.2.2⟩
end Go.Proofs.Ytmbkbehccmadfaa
