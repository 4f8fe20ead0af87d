/-
  nat: the document's Bits and Octets; the law's twin and kept.
-/
import Derived.Test.YtcmhacecnahfoaaOa
import Derived.Laws.CopyOwn
namespace Go.Proofs.Ytcmhacecnahfoaa
open Go.RowKit Go
set_option linter.unusedVariables false
set_option linter.unusedSimpArgs false
set_option maxRecDepth 100000
set_option maxHeartbeats 4000000 in
theorem dbits_any (A : Option Addr) (n c : Nat) (l : List Nat) (w : World) (h : RU w A n l) (hn : n ≤ 1000000) :
    Calls Try.prog 33 #[.slice A n c] w fun e w' => e = .returned (.int .i64 (if rightB l = true then (bitsN (val l) : Int) else -1)) ∧ w = w' := by
  have RR := Lib.hid (dright_any A n c l w h (by omega))
  have hl := h.len
  cases hr : rightB l with
  | false =>
    rw [hr] at RR
    rw [if_neg (by decide)]
    clear h hl hr
    go_enter Try.func33, Try.ntmps33
    go_wp2_with fail
    refine RR.out.mono ?_
    rintro e w' ⟨rfl, rfl⟩
    clear RR
    go_wp2
    go_ret
    exact ⟨rfl, rfl⟩
  | true =>
    rw [hr] at RR
    rw [if_pos rfl]
    obtain ⟨r1, r2⟩ := (rightB_iff l).1 hr
    by_cases h2 : n = 0
    · have hz : bitsN (val l) = 0 := by
        have : l = [] := List.eq_nil_of_length_eq_zero (by omega)
        subst this; rfl
      rw [hz]
      have i2 : ((n : Int) == 0) = true := by simp; omega
      have HH := Lib.hid h2
      clear h hl h2 hr hz r1 r2
      go_enter Try.func33, Try.ntmps33
      go_wp2_with fail
      refine RR.out.mono ?_
      rintro e w' ⟨rfl, rfl⟩
      clear RR
      go_wp2
      go_ret
      exact ⟨rfl, rfl⟩
    · obtain ⟨m, hm⟩ : ∃ m, n = m + 1 := ⟨n - 1, by omega⟩
      obtain ⟨b, off, rfl, hb, hc⟩ := h.at_ (show m < n by omega)
      have hbt := bits_top l h.lim r2 (by intro e; subst e; simp at hl; omega)
      rw [hl, show n - 1 = m by omega] at hbt
      have hx32 := h.lim.getD m
      obtain ⟨x, hx⟩ : ∃ x, l.getD m 0 = x := ⟨_, rfl⟩
      rw [hx] at hc hbt hx32
      rw [hbt]
      have hb32 : bitsN x ≤ 32 := (bits_le x 32).2 hx32
      have e1 : IntKind.i64.wrap ((n : Int) - 1) = (m : Int) := by rw [show (n : Int) - 1 = m by omega]; exact IntWalk.i64_in _ (by omega)
      have e2 : IntKind.i64.wrap (32 * (m : Int)) = ((32 * m : Nat) : Int) := by rw [show 32 * (m : Int) = ((32 * m : Nat) : Int) by omega]; exact IntWalk.i64_in _ (by omega)
      have i2 : ((n : Int) == 0) = false := by simp; omega
      have i3 : (m : Int) < (n : Int) := by omega
      have i4 : (0 : Int) ≤ (m : Int) := by omega
      obtain ⟨M, hM⟩ : ∃ M, 32 * m = M := ⟨_, rfl⟩
      rw [hM] at e2 ⊢
      obtain ⟨z, hz⟩ : ∃ z, M + bitsN x = z := ⟨_, rfl⟩
      rw [hz]
      have hzl : z ≤ 40000000 := by omega
      have HM := Lib.hid (show _ ∧ _ ∧ _ ∧ _ ∧ _ from ⟨hm, hx, hM, hz, hx32⟩)
      clear h hl hr r1 r2 hm hx hbt hb32 hM hz
      go_enter Try.func33, Try.ntmps33
      go_wp2_with fail
      refine RR.out.mono ?_
      rintro e w' ⟨rfl, rfl⟩
      clear RR
      go_wp2
      go_loop [3, 4] (fun vk vt => ∃ t k : Nat, vt = .int .u32 (t : Int) ∧ vk = .int .i64 (k : Int) ∧ k ≤ z ∧ t < 4294967296 ∧ Hid (k + bitsN t = z)) (fun _ vt => (intOf vt).toNat)
      case atStart => exact ⟨x, M, rfl, rfl, by have := HM.out; omega, HM.out.2.2.2.2, HM.out.2.2.2.1⟩
      case round =>
        obtain ⟨t, k, rfl, rfl, hk, ht, HK⟩ := hrel
        by_cases ht0 : t = 0
        · have i5 : ¬ (t : Int) > 0 := by omega
          have HZ : Hid (k = z) := by
            have := HK.out
            rw [ht0] at this
            exact this
          have H0 := Lib.hid ht0
          clear HK ht0
          go_wp2
          go_ret
          exact ⟨by rw [← HZ.out]; rfl, rfl⟩
        · have i5 : (t : Int) > 0 := by omega
          have hb := bitsN_half t ht0
          obtain ⟨q, hq⟩ : ∃ q, t / 2 = q := ⟨_, rfl⟩
          rw [hq] at hb
          have hkz := HK.out
          have e5 : (t : Int) / 2 = (q : Int) := by omega
          have e6 : IntKind.i64.wrap ((k : Int) + 1) = ((k + 1 : Nat) : Int) := by rw [show (k : Int) + 1 = ((k + 1 : Nat) : Int) by omega]; exact IntWalk.i64_in _ (by omega)
          have HN : Hid (k + 1 + bitsN q = z) := by unfold Hid; omega
          have hqt : q < t := by omega
          have hk1 : k + 1 ≤ z := by omega
          have HQ := Lib.hid hq
          clear hb hkz HK hq ht0
          go_wp2
          go_round
          case rel => exact ⟨q, k + 1, rfl, by go_num, by omega, by omega, HN⟩
          case measure => simp [intOf]; omega
theorem beN_drop (V : Nat) : ∀ (N i : Nat), i ≤ N → (beN V N).drop (N - i) = beN V i
  | 0, i, h => by
    obtain rfl : i = 0 := by omega
    rfl
  | N + 1, i, h => by
    rcases Nat.lt_or_ge i (N + 1) with h1 | h1
    · rw [show N + 1 - i = (N - i) + 1 by omega, beN, List.drop_succ_cons, beN_drop V N i (by omega)]
    · obtain rfl : i = N + 1 := by omega
      rw [Nat.sub_self, List.drop_zero]
theorem beN_low (V N i : Nat) (h : i ≤ N) (hv : V < 256 ^ i) : List.replicate (N - i) 0 ++ (beN V N).drop (N - i) = beN V N := by
  rw [beN_drop V N i h]
  refine (beN_beV _ N (by rw [List.length_append, List.length_replicate, beN_len]; omega) V ?_).symm
  rw [beV_append, beV_zeros, Nat.zero_mul, Nat.zero_add, beN_val, Nat.mod_eq_of_lt hv]
  exact Nat.mod_eq_of_lt (Nat.lt_of_lt_of_le hv (Nat.pow_le_pow_right (by decide) h))
section
variable {w : World} {ops : Array Oper} {rest : List Oper} {o : Oper} {a : Act} {Q : Exit → Act → World → Prop}
theorem wpList_cpyU (d s : Operand) (ho : o.op = .call { callee := .builtin .copy, args := #[d, s], argTypes := #[22, 22] }) (hgd : o.guard = none)
    (G n2 dc n c : Nat) (A : Option Addr) (x L : List Nat) (hd : a.eval d = .slice (some ⟨G, 0, none⟩) n2 dc) (hs : a.eval s = .slice A n c) (hb : BlkU w G L) (hr : RU w A n x) (hfit : n ≤ n2) (hL : n ≤ L.length) (B : Nat) (w0 : World) (hbel : Below B w0 w) (hBG : B ≤ G)
    (h : ∀ w', BlkU w' G (splice L 0 x) → Below B w0 w' → wpList Try.prog ops Q rest (a.put o.dst (goInt ((n : Nat) : Int))) w') : wpList Try.prog ops Q (o :: rest) a w := by
  have hlx : (x.map v32).length = n := by rw [List.length_map, hr.len]
  refine wpList_copy_splice hgd d s 22 22 ho 31 Try.underlying22 (by kernel_rfl) (some ⟨G, 0, none⟩) A n2 dc n c hd hs G 0 (L.map v32) 31 hb (x.map v32) (by rw [hlx]; exact (Nat.min_eq_left hfit).symm) ?_ (by rw [hlx, List.length_map]; omega) (by intro v hv; obtain ⟨q, _, rfl⟩ := List.mem_map.1 hv; rfl) B w0 hbel hBG ?_
  · intro hp
    obtain ⟨b, off, e, _, hc⟩ := hr.rd (by intro e; rw [e] at hp; simp at hp)
    refine ⟨rfl, ⟨b, off, none⟩, e, fun j v hj => ?_⟩
    rw [show (⟨b, off, none⟩ : Addr).add j = ⟨b, off + j, none⟩ by unfold Addr.add; split <;> simp_all]
    exact hc j v hj
  · intro w' h1 h2
    rw [hlx]
    refine h w' ?_ h2
    have h3 := h1.out
    unfold BlkU
    rw [show (splice L 0 x).map v32 = splice (L.map v32) 0 (x.map v32) by unfold splice; simp]
    exact h3
end
theorem splice_map0 (x : List Nat) (n : Nat) (h : x.length = n) : splice (List.replicate (n + 2) 0) 0 x = x ++ [0, 0] := by
  unfold splice
  subst h
  simp
end Go.Proofs.Ytcmhacecnahfoaa
