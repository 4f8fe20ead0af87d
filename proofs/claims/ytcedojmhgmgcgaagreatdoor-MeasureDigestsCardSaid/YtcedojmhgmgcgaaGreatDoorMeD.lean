/-
  measure: the ranges, one after the other.
-/
import Derived.Test.YtcedojmhgmgcgaaGreatDoorMeC
import Derived.Test.YtcedojmhgmgcgaaGreatDoorMp2
namespace Go.Proofs.YtcedojmhgmgcgaaGreatDoor
open Go.RowKit Go
set_option linter.unusedVariables false
set_option linter.unusedSimpArgs false
set_option maxRecDepth 100000
attribute [local go_sem] Oper.semAt_some
def rngCells (s : Nat × Nat) : List Value := [.int .i64 (s.1 : Nat), .int .i64 (s.2 : Nat)]
def rngEnc (s : Nat × Nat) : Array Value := #[.agg #[.int .i64 (s.1 : Nat), .int .i64 (s.2 : Nat)]]
theorem chain_snoc (l : List (Nat × Nat)) (e : Nat) (x : Nat × Nat) : (chainR (l ++ [x]) e).2 = x.1 + x.2 := by
  induction l generalizing e with
  | nil => rfl
  | cons y r ih => exact ih _
theorem secR_snoc (l : List (Nat × Nat)) (x : Nat × Nat) : secR (l ++ [x]) = secR l ++ [(x.1, x.1 + x.2)] := by unfold secR; rw [List.map_append]; rfl
/-- What the iterator of the ranges holds. -/
structure RngIn where
  pl : Bool
  ck : Nat
  dr : Nat
  hd : Nat
  tb : Nat
  ln : Nat
  en : Nat
  V : Option Addr
  m : Nat
  cV : Nat
  U : Option Addr
  k : Nat
  cU : Nat
  SA : Option Addr
  sn : Nat
  sc : Nat
  L : List (Nat × Nat)
def RngIn.all (x : RngIn) : List (Nat × Nat) := [(0, x.ck), (x.ck + 4, x.dr), (x.dr + 8, x.hd)] ++ secR x.L ++ tailR (chainR x.L x.hd).2 x.en
structure RngIs (w : World) (gx gs ge : Nat) (x : RngIn) : Prop where
  kx : w.heap[gx]? = some (.cells #[.bool x.pl, .int .i64 (x.ck : Nat), .int .i64 (x.dr : Nat), .int .u32 (x.hd : Nat), .slice x.V x.m x.cV, .int .u32 (x.tb : Nat), .int .u32 (x.ln : Nat), .slice x.U x.k x.cU] 30)
  ks : w.heap[gs]? = some (.cells #[.slice x.SA x.sn x.sc] 27)
  ke : w.heap[ge]? = some (.cells #[.int .i64 (x.en : Nat)] 3)
  r : ReadR w x.SA (x.L.flatMap secCells)
  l : x.L.length = x.sn
  n : x.sn ≤ 100000
  hck : x.ck ≤ 1000000000
  hdr : x.dr ≤ 1000000000
  hhd : x.hd < 4294967296
  hen : x.en ≤ 8589934592
  hb : ∀ y ∈ x.L, y.1 < 4294967296 ∧ y.2 < 4294967296
theorem RngIs.below {w w' : World} {gx gs ge : Nat} {x : RngIn} (h : RngIs w gx gs ge x) (hb : Below w.heap.size w w') : RngIs w' gx gs ge x :=
  ⟨has_below h.kx hb, has_below h.ks hb, has_below h.ke hb, h.r.below hb (Nat.le_refl _), h.l, h.n, h.hck, h.hdr, h.hhd, h.hen, h.hb⟩
set_option maxHeartbeats 4000000 in
theorem ranges2_in (gx gs ge D : Nat) (xx : RngIn) (I : List (Nat × Nat) → World → Prop) (hF : ∀ pre W, I pre W → RngIs W gx gs ge xx) (hIa : ∀ pre W o, I pre W → I pre (W.alloc o)) :
    IterQ Tryz.prog 4 D 40 #[.pointer (some ⟨gx, 0, none⟩), .pointer (some ⟨gs, 0, none⟩), .pointer (some ⟨ge, 0, none⟩)] rngEnc (fun _ => False) (fun _ x _ => x ∈ xx.all) I (fun xs _ => xs = xx.all) (fun _ => True) (xx.sn + 6) := by
  intro Y Z hYI hYs hY hYb W1 hY0
  obtain ⟨pl, ck, dr, hd, tb, ln, en, V, m, cV, U, k, cU, SA, sn, sc, L⟩ := xx
  have FA : Hid (∀ pre W, Y pre W → W.cell? ⟨gx, 1, none⟩ = some (.int .i64 (ck : Nat)) ∧ W.cell? ⟨gx, 2, none⟩ = some (.int .i64 (dr : Nat)) ∧ W.cell? ⟨gx, 3, none⟩ = some (.int .u32 (hd : Nat)) ∧ W.cell? ⟨gs, 0, none⟩ = some (.slice SA sn sc) ∧ W.cell? ⟨ge, 0, none⟩ = some (.int .i64 (en : Nat)) ∧ ReadR W SA (L.flatMap secCells)) := by
    refine Lib.hid (fun pre W h => ?_)
    have hB := hF _ _ (hYI _ _ h)
    obtain ⟨_, x1, x2, x3, _⟩ := cells_8 hB.kx
    exact ⟨x1, x2, x3, cells_1 hB.ks, cells_1 hB.ke, hB.r⟩
  obtain ⟨_, _, _, _, hl, hn, hck, hdr, hhd, hen, hb⟩ := hF _ _ (hYI _ _ hY0)
  dsimp only at hl hn hck hdr hhd hen hb
  unfold RngIn.all
  dsimp only
  unfold RngIn.all at hY
  dsimp only at hY
  have YA : Hid (∀ pre W o, Y pre W → Y pre (W.alloc o)) := Lib.hid (fun pre W o h => hYs _ W (W.alloc o) h (hIa _ _ o (hYI _ _ h)) (heap_alloc_old _ _ (by obtain ⟨⟨o, h⟩, _⟩ := hYb _ _ h; exact block_lt h)) (heap_alloc_old _ _ (by obtain ⟨_, ⟨o, h⟩⟩ := hYb _ _ h; exact block_lt h)))
  have HBX := Lib.hid hb
  have HLL := Lib.hid hl
  obtain ⟨c4, hc4⟩ : ∃ c4, ck + 4 = c4 := ⟨_, rfl⟩
  obtain ⟨d8, hd8⟩ : ∃ d8, dr + 8 = d8 := ⟨_, rfl⟩
  rw [hc4, hd8] at hY ⊢
  have HY := Lib.hid hY
  have e1 : IntKind.i64.wrap ((ck : Int) + 4) = (c4 : Int) := by rw [IntWalk.i64_in _ (by omega)]; omega
  have e2 : IntKind.i64.wrap ((dr : Int) + 8) = (d8 : Int) := by rw [IntWalk.i64_in _ (by omega)]; omega
  have e3 : IntKind.i64.wrap (hd : Int) = (hd : Int) := IntWalk.i64_in _ (by omega)
  clear hc4 hd8 hY hYI hYs hYb hF hIa hb hl
  obtain ⟨x1, x2, x3, x4, x5, _⟩ := FA.out _ _ hY0
  have HY1 := Lib.hid hY0
  clear hY0
  refine callsIn_of_wp Tryz.func40 rfl trivial ?_ rfl
  simp only [Tryz.ntmps40, List.size_toArray, List.length_cons, List.length_nil, Nat.reduceAdd, Nat.reduceSub, Array.replicate_succ, Array.replicate_zero, List.push_toArray, List.append_toArray, List.nil_append, List.cons_append]
  obtain ⟨fn, tmps, assign, body, hy, hYY⟩ := HY.out ([]) ((0, ck)) W1 HY1.out (by simp) (by simp)
  dsimp only [rngEnc] at hy
  have HH := Lib.hid hYY
  clear hYY
  rw [show ((0 : Nat) : Int) = 0 from rfl] at hy
  gi_wp2_with (fail)
  refine HH.out.mono ?_
  clear HH hy x1 x2 x3 x4 x5
  rintro e W2 (⟨rfl, hJ, _⟩ | ⟨rfl, hJ⟩)
  rotate_left
  · have HZ := Lib.hid hJ
    clear hJ
    gi_wp2_with (refine wpListIn_skip rfl rfl ?_)
    refine bodyPost_ret (results_none rfl _ _ _) rfl ?_
    exact ⟨⟨_, rfl⟩, .inr ⟨_, trivial, HZ.out⟩⟩
  have HY2 := Lib.hid hJ
  clear hJ HY1
  obtain ⟨x1, x2, x3, x4, x5, _⟩ := FA.out _ _ HY2.out
  obtain ⟨fn, tmps, assign, body, hy, hYY⟩ := HY.out ([] ++ [(0, ck)]) ((c4, dr)) W2 HY2.out (by simp) (by simp)
  dsimp only [rngEnc] at hy
  have HH := Lib.hid hYY
  clear hYY
  gi_wp2_with (fail)
  refine HH.out.mono ?_
  clear HH hy x1 x2 x3 x4 x5
  rintro e W3 (⟨rfl, hJ, _⟩ | ⟨rfl, hJ⟩)
  rotate_left
  · have HZ := Lib.hid hJ
    clear hJ
    gi_wp2_with (refine wpListIn_skip rfl rfl ?_)
    refine bodyPost_ret (results_none rfl _ _ _) rfl ?_
    exact ⟨⟨_, rfl⟩, .inr ⟨_, trivial, HZ.out⟩⟩
  have HY3 := Lib.hid hJ
  clear hJ HY2
  obtain ⟨x1, x2, x3, x4, x5, _⟩ := FA.out _ _ HY3.out
  obtain ⟨fn, tmps, assign, body, hy, hYY⟩ := HY.out ([] ++ [(0, ck)] ++ [(c4, dr)]) ((d8, hd)) W3 HY3.out (by simp) (by simp)
  dsimp only [rngEnc] at hy
  have HH := Lib.hid hYY
  clear hYY
  gi_wp2_with (fail)
  refine HH.out.mono ?_
  clear HH hy x1 x2 x3 x4 x5
  rintro e W4 (⟨rfl, hJ, _⟩ | ⟨rfl, hJ⟩)
  rotate_left
  · have HZ := Lib.hid hJ
    clear hJ
    gi_wp2_with (fail)
    refine bodyPost_ret (results_none rfl _ _ _) rfl ?_
    exact ⟨⟨_, rfl⟩, .inr ⟨_, trivial, HZ.out⟩⟩
  have HY4 := Lib.hid hJ
  clear hJ HY3 e1 e2 e3
  obtain ⟨x1, x2, x3, x4, x5, _⟩ := FA.out _ _ HY4.out
  gi_wp2_with (fail)
  clear x1 x2 x3 x4 x5
  gi_loopw [5, 41] (fun v u wr => ∃ (i la : Nat), u = .int .i64 (i : Int) ∧ v = .int .i64 (la : Int) ∧ i ≤ sn ∧ la ≤ 8589934592 ∧ Hid (la = (chainR (L.take i) hd).2) ∧ Hid (Y ([(0, ck), (c4, dr), (d8, hd)] ++ secR (L.take i)) wr)) (fun _ u _ => sn - (intOf u).toNat)
  case atStart => exact ⟨0, hd, rfl, rfl, Nat.zero_le _, by omega, rfl, HY4⟩
  case round =>
    obtain ⟨i, la, rfl, rfl, hi, hla, HLA, HYR⟩ := hrel
    obtain ⟨x1, x2, x3, x4, x5, hRW⟩ := FA.out _ _ HYR.out
    by_cases hlt : i < sn
    · obtain ⟨x, hx⟩ : ∃ x, L[i]? = some x := ⟨_, List.getElem?_eq_getElem (by have := HLL.out; omega)⟩
      obtain ⟨s0, s1⟩ := sec_at L i x hx
      obtain ⟨b, off, rfl, hb, k0⟩ := hRW.at_ s0
      obtain ⟨b', off', e, hb', k1⟩ := hRW.at_ s1
      cases e
      have k1' : wr.cell? ⟨b, off + i * 2 + 1, none⟩ = some (.int .u32 (x.2 : Nat)) := k1
      obtain ⟨lx1, lx2⟩ := HBX.out x (List.mem_of_getElem? hx)
      obtain ⟨y, hy9⟩ : ∃ y, x.1 + x.2 = y := ⟨_, rfl⟩
      have hsn : L.take (i + 1) = L.take i ++ [x] := by rw [List.take_add_one, hx]; rfl
      have HN := Lib.hid (And.intro (show (chainR (L.take (i + 1)) hd).2 = y by rw [hsn, chain_snoc, hy9]) (show secR (L.take (i + 1)) = secR (L.take i) ++ [(x.1, y)] by rw [hsn, secR_snoc, hy9]))
      have e1 : IntKind.i64.wrap (x.1 : Int) = (x.1 : Int) := IntWalk.i64_in _ (by omega)
      have e2 : IntKind.i64.wrap (x.2 : Int) = (x.2 : Int) := IntWalk.i64_in _ (by omega)
      have e3 : IntKind.i64.wrap ((x.1 : Int) + (x.2 : Int)) = (y : Int) := by rw [IntWalk.i64_in _ (by omega)]; omega
      have i1 : decide ((i : Int) < (sn : Int)) = true := by simp; omega
      have e4 : IntKind.i64.wrap ((i : Int) + 1) = (i : Int) + 1 := IntWalk.i64_in _ (by omega)
      have hyl : y ≤ 8589934592 := by omega
      obtain ⟨fn, tmps, assign, body, hy, hYY⟩ := HY.out _ (x.1, y) (wr.alloc (.cells #[.int .u32 (x.1 : Nat), .int .u32 (x.2 : Nat)] 60)) (YA.out _ _ _ HYR.out) (List.mem_append_left _ (List.mem_append_right _ (by rw [← hy9]; exact List.mem_map_of_mem (f := fun s : Nat × Nat => (s.1, s.1 + s.2)) (List.mem_of_getElem? hx)))) (by simp [secR, List.length_take]; omega)
      dsimp only [rngEnc] at hy
      have HH := Lib.hid hYY
      clear hYY k1 hRW s0 s1 hb' hx hsn hy9
      obtain ⟨xa, xb⟩ := x
      dsimp only at *
      gi_wp2_with (fail)
      refine HH.out.mono ?_
      clear HH hy x1 x2 x3 x4 x5 k0 k1'
      rintro e W5 (⟨rfl, hJ, _⟩ | ⟨rfl, hJ⟩)
      · have HJ : Hid (Y ([(0, ck), (c4, dr), (d8, hd)] ++ secR (L.take (i + 1))) W5) := by rw [HN.out.2, ← List.append_assoc]; exact Lib.hid hJ
        have HC := Lib.hid HN.out.1
        clear hJ HN
        gi_wp2_with (fail)
        go_roundw
        case rel => exact ⟨i + 1, y, by go_num, rfl, by omega, hyl, Lib.hid HC.out.symm, HJ⟩
        case measure => simp [intOf]; omega
      · have HZ := Lib.hid hJ
        clear hJ
        gi_wp2_with (fail)
        refine bodyPost_ret (results_none rfl _ _ _) rfl ?_
        exact ⟨⟨_, rfl⟩, .inr ⟨_, trivial, HZ.out⟩⟩
    · have i1 : decide ((i : Int) < (sn : Int)) = false := by simp; omega
      obtain rfl : i = sn := by omega
      have htk : L.take i = L := by rw [← HLL.out, List.take_length]
      rw [htk] at HLA HYR
      clear htk hRW
      by_cases hle : la < en
      · have t1 : decide ((la : Int) < (en : Int)) = true := by simp; omega
        obtain ⟨fn, tmps, assign, body, hy, hYY⟩ := HY.out _ (la, en) wr HYR.out (List.mem_append_right _ (by rw [← HLA.out]; unfold tailR; rw [if_pos hle]; exact List.mem_cons_self ..)) (by simp [secR]; have := HLL.out; omega)
        dsimp only [rngEnc] at hy
        have HH := Lib.hid hYY
        have HT : Hid (tailR (chainR L hd).2 en = [(la, en)]) := by rw [← HLA.out]; exact Lib.hid (if_pos hle)
        clear hYY
        gi_wp2_with (fail)
        refine HH.out.mono ?_
        rintro e W5 (⟨rfl, hJ, _⟩ | ⟨rfl, hJ⟩)
        · have HJ := Lib.hid hJ
          clear hJ
          gi_wp2_with (fail)
          go_end0
          exact ⟨⟨_, rfl⟩, .inl ⟨_, rfl, by rw [HT.out]; exact HJ.out⟩⟩
        · have HJ := Lib.hid hJ
          clear hJ HT
          gi_wp2_with (fail)
          go_end0
          exact ⟨⟨_, rfl⟩, .inr ⟨_, trivial, HJ.out⟩⟩
      · have t1 : decide ((la : Int) < (en : Int)) = false := by simp; omega
        have HT : Hid (tailR (chainR L hd).2 en = []) := by rw [← HLA.out]; exact Lib.hid (if_neg hle)
        gi_wp2_with (fail)
        go_end0
        rw [HT.out, List.append_nil]
        exact ⟨⟨_, rfl⟩, .inl ⟨_, rfl, HYR.out⟩⟩
theorem iter_of_q {α : Type} {P : Program} {n D gf : Nat} {lb : Array Value} {encs : α → Array Value} {K : Nat → Prop} {Qx : List α → α → World → Prop} {I : List α → World → Prop} {S : List α → Prop} {Sp : List α → Prop} {N : Nat} (h : IterQ P n D gf lb encs K Qx I (fun xs _ => S xs) Sp N) : IterOf P n D gf lb encs K I S Sp N :=
  fun Y Z h1 h2 h3 h4 W1 h5 => h Y Z h1 h2 (fun pre x W a _ c => h3 pre x W a c) h4 W1 h5
end Go.Proofs.YtcedojmhgmgcgaaGreatDoor
