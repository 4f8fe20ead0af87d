/-
  cert: the statement on versions of certificates.
-/
import Derived.Test.YtomolfdcdmncoaaCfQ
import Derived.Test.YtomolfdcdmncoaaMyC
namespace Go.Proofs.Ytomolfdcdmncoaa
open Go.RowKit Go
set_option linter.unusedVariables false
set_option linter.unusedSimpArgs false
set_option maxRecDepth 100000

def e4 (v : Nat) : List UInt8 := [UInt8.ofNat (v / 16777216), UInt8.ofNat (v / 65536), UInt8.ofNat (v / 256), UInt8.ofNat v]
theorem e4_be (v : Nat) : beN (e4 v) = v % 4294967296 := by
  simp only [e4, beN, List.foldl_cons, List.foldl_nil, UInt8.toNat_ofNat']
  omega
theorem e4_cells (v : Nat) : (#[.int .u8 ((v : Int) / 16777216 % 256), .int .u8 ((v : Int) / 65536 % 256), .int .u8 ((v : Int) / 256 % 256), .int .u8 ((v : Int) % 256)] : Array Value).toList = (e4 v).map bv := by
  simp only [e4, List.map_cons, List.map_nil, bv, UInt8.toNat_ofNat']
  have h2 : (v : Int) / 16777216 % 256 = ((v / 16777216 % 2 ^ 8 : Nat) : Int) := by omega
  have h3 : (v : Int) / 65536 % 256 = ((v / 65536 % 2 ^ 8 : Nat) : Int) := by omega
  have h4 : (v : Int) / 256 % 256 = ((v / 256 % 2 ^ 8 : Nat) : Int) := by omega
  have h5 : (v : Int) % 256 = ((v % 2 ^ 8 : Nat) : Int) := by omega
  rw [h2, h3, h4, h5]
def verB (v : Nat) : List UInt8 := wrQ 2 (putI (e4 v))
theorem verB_len (v : Nat) : (verB v).length ≤ 11 := by
  have h1 := putI_len (e4 v)
  have h2 : (e4 v).length = 4 := rfl
  have h3 := wrQ_len 2 (putI (e4 v)) (by omega)
  unfold verB; omega
theorem ver_rd (v : Nat) : verQ (wrQ 160 (verB v), verB v) = if v % 4294967296 = 2 then some () else none := by
  have h1 := putI_len (e4 v)
  have h2 : (e4 v).length = 4 := rfl
  have h5 := trim_len9 (e4 v)
  have h6 : beN (trimZ (e4 v)) = v % 4294967296 := by rw [trim_be9, e4_be]
  unfold verQ
  rw [wi_wr 160 _ 160 rfl]
  unfold verB
  rw [all1 (by decide) (by omega)]
  simp only [Option.bind_some, nxQ]
  by_cases h3 : v % 4294967296 < 3
  · rw [sm_wr _ _ (by omega) (by rw [h6]; exact h3), h6]
    simp only [Option.bind_some, enQ]
    by_cases h4 : v % 4294967296 = 2
    · rw [gd_yes h4, if_pos h4]; rfl
    · rw [gd_no h4, if_neg h4]; rfl
  · have hs : smQ (wrQ 2 (putI (e4 v)), putI (e4 v)) 3 = none := by
      unfold smQ
      rw [nu_wr]
      simp only [Option.bind_some]
      rw [gd_yes (by omega)]
      simp only [Option.bind_some]
      rw [gd_no (by rw [h6]; exact h3)]
      rfl
    rw [hs, if_neg (by omega)]
    rfl
theorem ver_all (k : KC) (v : Nat) : allQ (k.L.set 0 (wrQ 160 (verB v))).flatten = some [(wrQ 160 (verB v), verB v), E1 k.sb, E2, E3 k.is.data.toList, E4 k.f k.t, E3 k.ss.data.toList, E6 k.nb k.e] := by
  have h2 := in_len _ (take_len k.is.data.toList 200)
  have h3 := in_len _ (take_len k.ss.data.toList 200)
  have h4 := nM_len k.nb
  have h5 := serM_len k.sb
  have d := spanB_len (fM k.f) (tM k.f k.t)
  have g := spkB_len (nM k.nb) (k.e % 8589934592) (by omega)
  have e3 : ∀ s : List UInt8, (inM (s.take 200)).length ≤ 300 := fun s => in_len _ (take_len s 200)
  have i1 := e3 k.is.data.toList
  have i2 := e3 k.ss.data.toList
  have vl := verB_len v
  rw [E3_is, E3_is]
  unfold E1 E2 E4 E6 KC.L elL elP
  simp only [List.map_cons, List.map_nil, List.set_cons_succ, List.set_cons_zero, List.flatten_cons, List.flatten_nil]
  rw [nameB_is, nameB_is]
  exact sall (by decide) (by omega) (sall (by decide) (by omega) (sall (by decide) (by decide) (sall (by decide) (by omega) (sall (by decide) (by omega) (sall (by decide) (by omega) (sall (by decide) (by omega) all_nil))))))
theorem rest_all (k : KC) : allQ (k.L.drop 1).flatten = some [E1 k.sb, E2, E3 k.is.data.toList, E4 k.f k.t, E3 k.ss.data.toList, E6 k.nb k.e] := by
  have h2 := in_len _ (take_len k.is.data.toList 200)
  have h3 := in_len _ (take_len k.ss.data.toList 200)
  have h4 := nM_len k.nb
  have h5 := serM_len k.sb
  have d := spanB_len (fM k.f) (tM k.f k.t)
  have g := spkB_len (nM k.nb) (k.e % 8589934592) (by omega)
  have e3 : ∀ s : List UInt8, (inM (s.take 200)).length ≤ 300 := fun s => in_len _ (take_len s 200)
  have i1 := e3 k.is.data.toList
  have i2 := e3 k.ss.data.toList
  rw [E3_is, E3_is]
  unfold E1 E2 E4 E6 KC.L elL elP
  simp only [List.map_cons, List.map_nil, List.drop_succ_cons, List.drop_zero, List.flatten_cons, List.flatten_nil]
  rw [nameB_is, nameB_is]
  exact sall (by decide) (by omega) (sall (by decide) (by decide) (sall (by decide) (by omega) (sall (by decide) (by omega) (sall (by decide) (by omega) (sall (by decide) (by omega) all_nil)))))
theorem ver_len (k : KC) (v : Nat) : (k.L.set 0 (wrQ 160 (verB v))).flatten.length ≤ 2200 := by
  have h1 := set_len k.L 0 (wrQ 160 (verB v))
  have h2 := k.Llen
  have vl := verB_len v
  have h3 := wrQ_len 160 (verB v) (by omega)
  omega
theorem rest_len (k : KC) : (k.L.drop 1).flatten.length ≤ 2000 := by
  have h2 := k.Llen
  have h3 : k.L.flatten = (k.L.take 1).flatten ++ (k.L.drop 1).flatten := by rw [← List.flatten_append, List.take_append_drop]
  rw [h3, List.length_append] at h2
  omega
def verC (k : KC) (v : Nat) : List UInt8 := certB (wrQ 48 (k.L.set 0 (wrQ 160 (verB v))).flatten) (k.gb.take 100)
def restC (k : KC) : List UInt8 := certB (wrQ 48 (k.L.drop 1).flatten) []
theorem ver_chk (k : KC) (v : Nat) : ∀ p ∈ [(wrQ 160 (verB v), verB v), E1 k.sb, E2, E3 k.is.data.toList, E4 k.f k.t, E3 k.ss.data.toList, E6 k.nb k.e], chk 13 p.1 p.2 = 0 := by
  have h1 := putI_len (e4 v)
  have h2 : (e4 v).length = 4 := rfl
  refine all7 (p := fun p => chk 13 p.1 p.2 = 0) ?_ (ck1 _) ck2 (ck3 _) (ck4 _ _) (ck3 _) (ck6 _ _) (fun x h => by cases h)
  refine chk_in 12 160 (verB v) [(verB v, putI (e4 v))] (all1 (by decide) (by omega)) ?_
  intro q hq
  rw [List.mem_singleton] at hq
  subst hq
  exact chk_flat 12 2 (putI (e4 v)) (by decide)
theorem ver_no (k : KC) (v : Nat) (h : v % 4294967296 ≠ 2) : certQ (verC k v) = .inl 9 := by
  refine cert_no _ _ _ (ver_all k v) (ver_chk k v) (by have := ver_len k v; omega) (by have := take_len k.gb 100; omega) ?_
  rw [tb_run _ _ _ _ _ _ _ _ _ (ver_all k v), ver_rd, if_neg h]
  rfl
theorem ver_yes (k : KC) (v : Nat) (h : v % 4294967296 = 2) : ∃ c, certQ (verC k v) = .inr c := by
  have ht : tbQ (wrQ 48 (k.L.set 0 (wrQ 160 (verB v))).flatten, (k.L.set 0 (wrQ 160 (verB v))).flatten) = some ⟨[], [], nameB (k.is.data.toList.take 200), nameB (k.ss.data.toList.take 200), serM k.sb, fM k.f, tM k.f k.t, nM k.nb, k.e % 8589934592, [], false, -1, -1, true⟩ := by
    rw [tb_run _ _ _ _ _ _ _ _ _ (ver_all k v), ver_rd, if_pos h]
    simp only [Option.bind_some]
    rw [rd1, rd2, rd3, rd4, rd3, rd6]
    simp only [Option.bind_some, exsQ]
    rfl
  exact ⟨_, cert_yes _ _ _ _ (ver_all k v) (ver_chk k v) (by have := ver_len k v; omega) (by have := take_len k.gb 100; omega) ht⟩
theorem rest_no (k : KC) : certQ (restC k) = .inl 9 := by
  refine cert_no _ _ _ (rest_all k) (fun p hp => ?_) (by have := rest_len k; omega) (by simp) ?_
  · simp only [List.mem_cons, List.not_mem_nil, or_false] at hp
    rcases hp with rfl | rfl | rfl | rfl | rfl | rfl
    · exact ck1 _
    · exact ck2
    · exact ck3 _
    · exact ck4 _ _
    · exact ck3 _
    · exact ck6 _ _
  · unfold tbQ
    rw [wi_wr 48 _ 48 rfl, rest_all]
    simp only [Option.bind_some, nxQ]
    have h : wiQ (E1 k.sb) 160 = none := by
      unfold wiQ E1
      rw [tg_wr, gd_no (by decide)]
      rfl
    rw [h]
    rfl
theorem er_no {bs : List UInt8} {er : Nat} (h : certQ bs = .inl er) : erQ bs = er := by unfold erQ; rw [h]
theorem er_yes {bs : List UInt8} {c : Ce} (h : certQ bs = .inr c) : erQ bs = 0 := by unfold erQ; rw [h]
theorem certC_len (body sig : List UInt8) (h1 : body.length ≤ 2200) (h2 : sig.length ≤ 100) : (certB (wrQ 48 body) sig).length ≤ 3000 := by
  have h3 := wrQ_len 48 body (by omega)
  have h4 := cert_len (wrQ 48 body) sig (by omega) (by omega)
  omega

set_option maxHeartbeats 8000000 in
theorem versions_go (k : KC) (v : Nat) (w : World) (hk : IsKC w k) (hv : v < 18446744073709551616) : Calls Try.prog 9 #[k.val, .int .u64 (v : Int)] w fun e w' => e = .returned (.bool true) ∧ Below w.heap.size w w' := by

  have HKC := Lib.hid hk
  have HCS := Lib.hid (kc_info k)
  unfold KC.val
  obtain ⟨CC, HCC⟩ : ∃ CC, Hid (k.cells = CC) := ⟨_, Lib.hid rfl⟩
  have ICC : Hid ((Try.prog.info? 28).map (·.size) = some CC.size) := by rw [← HCC.out]; exact Lib.hid (kc_info k)
  clear hk HCS
  rw [HCC.out]
  go_enter Try.func9, Try.ntmps9
  go_upto_region 1 with (fail)
  refine wp_nm fun w0 hw0 => ?_
  have HB := Lib.hid (show Below w.heap.size w w0 by rw [← hw0]; exact kp_alloc (Below.refl _ _) _)
  have HK := Lib.hid (show w0.heap[w.heap.size]? = some (.cells CC 28) by rw [← hw0]; exact has_new _ _)
  clear hw0
  have HE4 := Lib.hid (e4_cells v)
  go_wp2_with fail
  refine calls_nm fun w1 hw1 => ?_
  have hbw1 : Below w0.heap.size w0 w1 := by rw [← hw1]; exact kp_alloc (Below.refl _ _) _
  replace HB := Lib.hid (kp_call HB.out hbw1)
  replace HK := Lib.hid (has_below HK.out hbw1)
  have HL := Lib.hid (show RB w1 (some ⟨w0.heap.size, 0, none⟩) 4 (e4 v) by rw [← hw1]; exact (own_lit w0 (e4 v) 4 _ HE4.out rfl (by omega)).rb)
  clear hw1 hbw1
  refine (rputint_any _ 4 4 (e4 v) w1 HL.out (by omega) (by omega) (by omega)).mono ?_
  rintro e' w2 ⟨A5, n5, c5, rfl, ho, hb⟩
  have HO5 := Lib.hid (ho.lower (base' := w.heap.size) HB.out.size)
  have hn5 : n5 ≤ 5 := by have h1 := putI_len (e4 v); have h2 : (e4 v).length = 4 := rfl; have := ho.len; omega
  replace HB := Lib.hid (kp_call HB.out hb)
  replace HK := Lib.hid (has_below HK.out hb)
  clear ho hb HL HE4
  go_upto_region 2 with (fail)
  have vl := verB_len v
  refine wp_region_monoS (by kernel_rfl) (by kernel_rfl) [24, 25, 26, 27, 28, 29, 23, 30, 31, 6] (by rfl) (by rfl) (by decide) (by rfl) (fun j => ([MR.eq (.agg CC), MR.eq (.slice A5 n5 c5), MR.own (w.heap.size) (verB v), MR.own (w.heap.size) (wrQ 160 (verB v)), MR.own (w.heap.size) (verC k v), MR.par (w.heap.size) (verC k v), MR.par (w.heap.size) (verC k v), MR.par0 (w.heap.size) (verC k v), MR.eq (.int .i64 (erQ (verC k v) : Int)), MR.fresh0 (w2.heap.size)] : List MR).getD j MR.any) [] [[], [], [1], [1, 2], [0, 1, 2, 3], [0, 1, 2, 3, 4], [0, 1, 2, 3, 4, 5], [0, 1, 2, 3, 4, 5, 6], [0, 1, 2, 3, 4, 5, 6], [], [0, 1, 2, 3, 4, 5, 6, 7, 9], [0, 1, 2, 3, 4, 5, 6, 7, 8, 9, 10]] (by kernel_rfl) (by kernel_rfl) 8 (by decide) (by kernel_rfl) (by kernel_rfl) _ (by rfl) _ 6 30 (by rfl) (by rfl) (by rfl) (by decide) (by decide) _ (by rfl) (by rfl) ?_ (by rfl) ?_ ?_
  · intro ρ W E
    obtain ⟨D23, e23, P23⟩ : (MR.par (w.heap.size) (verC k v)).p (ρ (.tmp 23)) W := E.dep 6 (by kernel_rfl)
    exact ⟨_, pure_extract rfl e23 (fun _ => by kernel_rfl), rfl⟩
  · intro i hi ρ W E
    simp only [List.length_cons, List.length_nil] at hi
    have hbW : w.heap.size ≤ W.heap.size := Nat.le_trans HB.out.size E.up.size
    rcases (show i = 0 ∨ i = 1 ∨ i = 2 ∨ i = 3 ∨ i = 4 ∨ i = 5 ∨ i = 6 ∨ i = 7 ∨ i = 8 ∨ i = 9 by omega) with rfl | rfl | rfl | rfl | rfl | rfl | rfl | rfl | rfl | rfl
    · -- 0: load 28 t2
      refine mono_at (by rfl) rfl ?_
      have e2 : ρ (.tmp 2) = .pointer (some ⟨w.heap.size, 0, none⟩) := E.old 2 rfl
      exact mo_loadr rfl e2 (has_below HK.out E.up) Try.underlying28 rfl ICC.out ⟨Below.refl _ _, rfl⟩
    · -- 1: move t5
      refine mono_at (by rfl) rfl ?_
      have e5 : ρ (.tmp 5) = .slice A5 n5 c5 := E.old 5 rfl
      exact mo_move rfl ⟨Below.refl _ _, e5⟩
    · -- 2: call { value (Operand.func 26), args := #[const (2:u8), t25]
      refine mono_at (by rfl) rfl ?_
      have e25 : ρ (.tmp 25) = .slice A5 n5 c5 := E.dep 1 (by kernel_rfl)
      refine mo_call rfl (E.fn _) (fun _ _ => by kernel_rfl) (args := #[.int .u8 2, .slice A5 n5 c5]) (by simp only [List.map_toArray, List.map_cons, List.map_nil, List.length_cons, List.length_nil, Nat.reduceAdd, E.cst, e25]) ?_
      exact writeM 2 (HO5.out.rb.below E.up) (by have h1 := putI_len (e4 v); have h2 : (e4 v).length = 4 := rfl; omega) hbW
    · -- 3: call { value (Operand.func 26), args := #[const (160:u8), t2
      refine mono_at (by rfl) rfl ?_
      obtain ⟨A26, n26, c26, e26, o26⟩ : (MR.own (w.heap.size) (verB v)).p (ρ (.tmp 26)) W := E.dep 2 (by kernel_rfl)
      refine mo_call rfl (E.fn _) (fun _ _ => by kernel_rfl) (args := #[.int .u8 160, .slice A26 n26 c26]) (by simp only [List.map_toArray, List.map_cons, List.map_nil, List.length_cons, List.length_nil, Nat.reduceAdd, E.cst, e26]) ?_
      exact writeM 160 o26.rb (by omega) hbW
    · -- 4: call { value (Operand.func 29), args := #[t24, const (0:i64)
      refine mono_at (by rfl) rfl ?_
      have e24 : ρ (.tmp 24) = .agg CC := E.dep 0 (by kernel_rfl)
      obtain ⟨A27, n27, c27, e27, o27⟩ : (MR.own (w.heap.size) (wrQ 160 (verB v))).p (ρ (.tmp 27)) W := E.dep 3 (by kernel_rfl)
      refine mo_call rfl (E.fn _) (fun _ _ => by kernel_rfl) (args := #[.agg CC, .int .i64 0, .slice A27 n27 c27]) (by simp only [List.map_toArray, List.map_cons, List.map_nil, List.length_cons, List.length_nil, Nat.reduceAdd, E.cst, e24, e27]) ?_
      rw [← HCC.out]
      exact fresh_own (k.put w HKC.out W (HB.out.trans (E.up.mono HB.out.size)) 0 0 rfl (by omega) o27.rb (by have := wrQ_len 160 (verB v) (by omega); omega)) hbW
    · -- 5: call { value (Operand.func 15), args := #[t28], argTypes := 
      refine mono_at (by rfl) rfl ?_
      obtain ⟨A28, n28, c28, e28, o28⟩ : (MR.own (w.heap.size) (verC k v)).p (ρ (.tmp 28)) W := E.dep 4 (by kernel_rfl)
      refine mo_call rfl (E.fn _) (fun _ _ => by kernel_rfl) (args := #[.slice A28 n28 c28]) (by simp only [List.map_toArray, List.map_cons, List.map_nil, List.length_cons, List.length_nil, Nat.reduceAdd, E.cst, e28]) ?_
      exact parM o28.rb o28.cap.1 o28.cap.2 (Nat.le_trans (certC_len _ _ (ver_len k v) (take_len _ _)) (by omega)) hbW
    · -- 6: move t29
      refine mono_at (by rfl) rfl ?_
      obtain ⟨D29, e29, P29⟩ : (MR.par (w.heap.size) (verC k v)).p (ρ (.tmp 29)) W := E.dep 5 (by kernel_rfl)
      exact mo_move rfl ⟨Below.refl _ _, E.dep 5 (by kernel_rfl)⟩
    · -- 7: extract t23 0
      refine mono_at (by rfl) rfl ?_
      obtain ⟨D23, e23, P23⟩ : (MR.par (w.heap.size) (verC k v)).p (ρ (.tmp 23)) W := E.dep 6 (by kernel_rfl)
      exact mo_extract rfl e23 (by kernel_rfl) ⟨Below.refl _ _, _, rfl, P23⟩
    · -- 8: extract t23 1
      refine mono_at (by rfl) rfl ?_
      obtain ⟨D23, e23, P23⟩ : (MR.par (w.heap.size) (verC k v)).p (ρ (.tmp 23)) W := E.dep 6 (by kernel_rfl)
      exact mo_extract rfl e23 (by kernel_rfl) ⟨Below.refl _ _, rfl⟩
    · -- 9: alloc 33
      refine mono_at (by rfl) rfl ?_
      exact mo_alloc rfl run_alloc0 ⟨kp_alloc (Below.refl _ _) _, _, rfl, E.up.size, has_new _ _⟩
  · intro u W hbU hR
    obtain ⟨Du30, eu30, Pu30⟩ : (MR.par0 (w.heap.size) (verC k v)).p (u 7) W := hR 7 (by decide)
    have hu31 : u 8 = .int .i64 (erQ (verC k v) : Int) := hR 8 (by decide)
    obtain ⟨gu6, eu6, Lu6, Zu6⟩ : (MR.fresh0 (w2.heap.size)).p (u 9) W := hR 9 (by decide)
    clear hR
    simp only [lay, Nat.reduceAdd, List.setIfInBounds_toArray, List.set_cons_zero, List.set_cons_succ]
    refine ⟨_, (by show (Instr.storeAt _ (u 9) (u 7)).run _ W = _; rw [eu6, eu30]; exact run_storeAt_row9 W gu6 _ _ _ Du30 Zu6 (info24 Pu30.size.1) (by rw [Pu30.size.1]; rfl) Pu30.size.2), wpOp_val (v := u 8) (by rfl) rfl (by rfl) ?_⟩
    dsimp only [Act.put]
    simp only [List.setIfInBounds_toArray, List.set_cons_zero, List.set_cons_succ, eu30, hu31, eu6]
    clear eu30 hu31 eu6
    have HB1 := Lib.hid (kp_call HB.out hbU)
    have HZ := Lib.hid Zu6
    have hg6 := Nat.le_trans HB.out.size Lu6
    have hg0 : w.heap.size ≠ gu6 := by have := block_lt HK.out; omega
    have HK1 := Lib.hid (has_below HK.out hbU)
    clear hbU Zu6 Lu6 Pu30
    go_upto_region 3 with (fail)
    refine wp_nm fun w3 hw3 => ?_
    have HG : Hid (W.grownBy w3 (some gu6)) := by rw [← hw3]; exact Lib.hid (grown_row ..)
    replace HB := Lib.hid (kp_grown HB1.out HG.out hg6)
    replace HK := Lib.hid (has_grown HK1.out HG.out hg0)
    clear hw3 HG HZ HB1 HK1 HO5
    go_wp2_with (refine wpList_load_row rfl _ _ rfl w.heap.size rfl _ CC _ _ HK.out Try.underlying28 rfl ICC.out ?_)
    rw [← HCC.out]
    refine (k.elems w HKC.out w3 HB.out).mono ?_
    rw [HCC.out]
    rintro e' w4 ⟨AE, nE, cE, lE, rfl, hR, hl, hb⟩
    have hn7 : nE = 7 := by have h1 := hR.len; have h2 := congrArg List.length hl; rw [List.length_map, elL_len] at h2; omega
    subst hn7
    obtain ⟨gE, rfl, _, _⟩ := hR.own.shape (by have := hR.own.cap; omega)
    have hcp := hR.own.cap
    have HR1 := Lib.hid (show RowsP w4 (some ⟨gE, 1, none⟩) (lE.drop 1) from ⟨by
      have h1 := hR.own.reads.drop_ 1
      rw [← List.map_drop] at h1
      simpa only [Option.map_some, Addr.add_lit, Nat.zero_add] using h1, fun x hx => (hR.rb x (List.mem_of_mem_drop hx)).rb⟩)
    have HLD := Lib.hid (show (lE.drop 1).map (·.2.2.2) = k.L.drop 1 by rw [List.map_drop, hl]; rfl)
    have HLN := Lib.hid (show (lE.drop 1).length = 6 by rw [List.length_drop, hR.len])
    replace HB := Lib.hid (kp_call HB.out hb)
    have i1 : ¬ cE = 1 := by omega
    have i2 : 1 ≤ cE := by omega
    have i3 : (1 : Int) ≤ (cE : Int) := by omega
    have i4 : 7 ≤ cE := hcp.1
    have i5 : (7 : Int) ≤ (cE : Int) := by omega
    clear hR hl hb hcp HK
    go_wp2_with fail
    refine (seq_any (some ⟨gE, 1, none⟩) 6 (cE - 1) _ w4 HR1.out HLN.out (by omega) (by rw [flat_map, HLD.out]; have := rest_len k; omega)).mono ?_
    rintro e' w5 ⟨AS, nS, cS, rfl, ho, hb⟩
    rw [flat_map, HLD.out] at ho
    have HS := Lib.hid ho.rb
    have hnS : nS ≤ 2100 := by have h1 := ho.len; have h2 := rest_len k; have h3 := wrQ_len 48 (k.L.drop 1).flatten (by omega); omega
    replace HB := Lib.hid (kp_call HB.out hb)
    clear ho hb HR1 HLD HLN
    go_wp2_with fail
    refine (wwrite_any AS nS cS _ none 0 0 [] w5 HS.out ⟨rfl, fun h => absurd rfl h⟩ (by omega) (by omega)).mono ?_
    rintro e' w6 ⟨AC, nC, cC, rfl, ho, hb⟩
    have HC := Lib.hid (show OwnB w6 w5.heap.size AC nC cC (restC k) from ho)
    have hnC : nC ≤ 3000 := by rw [← ho.len]; exact certC_len _ _ (by have := rest_len k; omega) (by simp)
    replace HB := Lib.hid (kp_call HB.out hb)
    clear ho hb HS
    go_wp2_with fail
    refine (parse9_any AC nC cC (restC k) w6 HC.out.rb HC.out.cap.1 HC.out.cap.2 (by omega)).mono ?_
    rintro e' w7 ⟨D, rfl, hp, hb⟩
    rw [er_no (rest_no k)]
    have HS2 := Lib.hid hp.size
    have ID := Lib.hid (info24 hp.size.1)
    replace HB := Lib.hid (kp_call HB.out hb)
    clear hp hb HC
    go_upto_region 4 with (refine wpList_store_row rfl _ _ _ rfl w7.heap.size D rfl rfl _ _ (has_new w7 _) ID.out (by rw [HS2.out.1]; rfl) HS2.out.2 ?_)
    refine wp_nm fun w8 hw8 => ?_
    replace HB := Lib.hid (show Below w.heap.size w w8 by rw [← hw8]; exact below_setRow (kp_alloc HB.out _) HB.out.size _)
    clear hw8 ID HS2 i1 i2 i3 i4 i5
    by_cases h2 : v % 4294967296 = 2
    · obtain ⟨ce, hce⟩ := ver_yes k v h2
      have HC := Lib.hid (er_yes hce)
      rw [HC.out]
      have q1 : ((v : Int) % 4294967296 == 2) = true := by rw [beq_iff_eq]; omega
      have q2 : (v % 4294967296 == 2) = true := by rw [beq_iff_eq]; exact h2
      clear hce h2
      go_wp2_with fail
      refine (works12_any _).mono ?_
      rintro e w' ⟨rfl, hb⟩
      have HBE := Lib.hid (kp_call HB.out hb)
      clear hb
      go_wp2
      go_ret
      exact ⟨rfl, HBE.out⟩
    · have HC := Lib.hid (er_no (ver_no k v h2))
      rw [HC.out]
      have q1 : ((v : Int) % 4294967296 == 2) = false := beq_eq_false_iff_ne.2 (by omega)
      have q2 : (v % 4294967296 == 2) = false := beq_eq_false_iff_ne.2 h2
      clear h2
      go_wp2_with fail
      refine (works12_any _).mono ?_
      rintro e w' ⟨rfl, hb⟩
      have HBE := Lib.hid (kp_call HB.out hb)
      clear hb
      go_wp2
      go_ret
      exact ⟨rfl, HBE.out⟩

theorem versions_row (k : KC) (a : Int) (w : World) (hk : IsKC w k) (wf : (Lit.int .u64 a).wf = true) : Calls Try.prog 9 #[k.val, .int .u64 a] w fun e w' => e = .returned (.bool true) ∧ Below w.heap.size w w' := by
  have hb := bounds_u64 wf
  obtain ⟨v, rfl⟩ : ∃ v : Nat, a = (v : Int) := ⟨a.toNat, by omega⟩
  exact versions_go k v w hk (by omega)
end Go.Proofs.Ytomolfdcdmncoaa
