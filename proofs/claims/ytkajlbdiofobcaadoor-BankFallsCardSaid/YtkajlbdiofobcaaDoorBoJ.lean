/-
  bank: the row BankFalls, walked (made by genBoJ.py).
-/
import Derived.Test.YtkajlbdiofobcaaDoorBoI
namespace Go.Proofs.YtkajlbdiofobcaaDoor
open Go.RowKit Go
set_option linter.unusedVariables false
set_option linter.unusedSimpArgs false
set_option maxRecDepth 100000
set_option maxHeartbeats 32000000 in
theorem falls_row (A : Option Addr) (n c : Nat) (os : Nat → BOp) (KA : Option Addr) (kn kc : Nat) (key : List UInt8) (VA : Option Addr) (vn vc : Nat) (val : List UInt8) (i : Int) (w : World) (ho : IsBOps w A n c os ∧ ∀ r, r < n → (os r).kn ≤ 140737488351232 ∧ (os r).vn ≤ 140737488351232) (hk : IsBs w KA kn kc key) (hv : IsBs w VA vn vc val) (hi : (Lit.int .i64 i).wf = true) (ht : Tabs w) :
    Calls Tryd.prog 4 #[.slice A n c, .slice KA kn kc, .slice VA vn vc, .int .i64 i] w fun e w' => e = .returned (.bool true) ∧ Below w.heap.size w w' := by
  have HT := Lib.hid ht
  have WK := Lib.hid (fun (W : World) (hb : Below w.heap.size w W) => works8_any W (HT.out.below hb))
  by_cases hn : 20 < n
  · have p1 : decide ((n : Int) > 20) = true := decide_eq_true (by omega)
    clear ho hk hv
    go_enter Tryd.func4, Tryd.ntmps4
    go_wp2_with fail
    refine (WK.out _ (Below.refl _ _)).mono ?_
    rintro e w2 ⟨rfl, hb2⟩
    go_wp2
    go_ret
    exact ⟨rfl, hb2⟩
  have p1 : decide ((n : Int) > 20) = false := decide_eq_false (by omega)
  by_cases hn2 : 300 < kn
  · have p2 : decide ((kn : Int) > 300) = true := decide_eq_true (by omega)
    clear ho hk hv
    go_enter Tryd.func4, Tryd.ntmps4
    go_wp2_with fail
    refine (WK.out _ (Below.refl _ _)).mono ?_
    rintro e w2 ⟨rfl, hb2⟩
    go_wp2
    go_ret
    exact ⟨rfl, hb2⟩
  have p2 : decide ((kn : Int) > 300) = false := decide_eq_false (by omega)
  by_cases hn3 : 2000 < vn
  · have p3 : decide ((vn : Int) > 2000) = true := decide_eq_true (by omega)
    clear ho hk hv
    go_enter Tryd.func4, Tryd.ntmps4
    go_wp2_with fail
    refine (WK.out _ (Below.refl _ _)).mono ?_
    rintro e w2 ⟨rfl, hb2⟩
    go_wp2
    go_ret
    exact ⟨rfl, hb2⟩
  have p3 : decide ((vn : Int) > 2000) = false := decide_eq_false (by omega)
  have bi := bounds_i64 hi
  obtain ⟨m, hm, hmb⟩ : ∃ m : Nat, (if i < 0 then (0 : Int) else i) = (m : Int) ∧ m ≤ 9223372036854775807 := by
    by_cases h0 : i < 0
    · exact ⟨0, by rw [if_pos h0]; rfl, by omega⟩
    · exact ⟨i.toNat, by rw [if_neg h0]; omega, by omega⟩
  have hm' : (if (0 : Int) > i then (0 : Int) else i) = (m : Int) := hm
  obtain ⟨L, hL, hL0, hL2⟩ : ∃ L : Nat, m % 2400 + 1 = L ∧ 0 < L ∧ L ≤ 2400 := ⟨_, rfl, by omega, by omega⟩
  have tm : Int.tmod (m : Int) 2400 = ((m % 2400 : Nat) : Int) := by rw [Int.tmod_eq_emod_of_nonneg (by omega)]; omega
  obtain ⟨q, hq⟩ : ∃ q, m % 2400 = q := ⟨_, rfl⟩
  rw [hq] at tm hL
  have e5 : IntKind.i64.wrap (1 + (q : Int)) = (L : Int) := by rw [IntWalk.i64_in _ (by omega)]; omega
  have HL := Lib.hid (And.intro hL0 hL2)
  clear hq hL hL0 hL2 hmb bi hi
  have BG := Lib.hid (begun_any A n c os w ho.1 ho.2 (by omega) ht)
  have HKN : Hid (kn ≤ 300 ∧ vn ≤ 2000 ∧ n ≤ 20) := ⟨by omega, by omega, by omega⟩
  have TK := Lib.hid (fun (W : World) (hb : Below w.heap.size w W) => twin8_any KA kn kc key W (hk.rb.below hb) (by omega))
  have TV := Lib.hid (fun (W : World) (hb : Below w.heap.size w W) => twin8_any VA vn vc val W (hv.rb.below hb) (by omega))
  have RK := Lib.hid (fun (W : World) (hb : Below w.heap.size w W) => hk.rb.below hb)
  have RV := Lib.hid (fun (W : World) (hb : Below w.heap.size w W) => hv.rb.below hb)
  clear ho ht hk hv hn hn2 hn3
  go_enter Tryd.func4, Tryd.ntmps4
  go_wp2_with fail
  refine BG.out.mono ?_
  rintro e w1 ⟨b, g, a, cc, S, rs, k, hb1, hcase⟩
  rcases hcase with rfl | ⟨rfl, hbeg⟩
  · clear BG
    go_wp2_with fail
    refine (WK.out _ hb1).mono ?_
    rintro e w2 ⟨rfl, hb2⟩
    have HB2 := Lib.hid (kp_call hb1 hb2)
    clear hb1 hb2
    go_wp2
    go_ret
    exact ⟨rfl, HB2.out⟩
  have HBEG := Lib.hid hbeg
  have LK := Lib.hid (look_seen (HT.out.below hb1) hbeg.bk hbeg.off hbeg.bs hbeg.blen hbeg.ok (by have := hbeg.len; have := HKN.out; omega))
  clear BG hb1 hbeg
  go_wp2_with fail
  refine LK.out.mono ?_
  rintro e w2 ⟨B, d, ds, rfl, hpl, hD, hb2⟩
  have SN := Lib.hid (seen_of HBEG.out HKN.out.2.2 hD hpl hb2)
  have hoff : Hid (S.off = false) := HBEG.out.off
  have hlen20 : Hid (rs.length ≤ 20) := SN.out.len
  have HB1 := Lib.hid HBEG.out.bel
  have HPL := Lib.hid SN.out.pl
  have GA := Lib.hid SN.out.ga
  have HBL := Lib.hid SN.out.blen
  have SOK := Lib.hid SN.out.ok
  have SBS := Lib.hid SN.out.bs
  have SWR := Lib.hid SN.out.wr
  clear LK hpl hD hb2 HBEG
  have AR := Lib.hid (farm_any SN.out.bk.fl hoff.out L 0 (by have := HL.out; omega))
  go_wp2_with fail
  refine AR.out.mono ?_
  rintro e w3 ⟨rfl, hf3, hfar3⟩
  have hK3 := SN.out.bk.next hf3 rfl rfl hfar3
  obtain ⟨hD3, hb3⟩ := SN.out.far hK3 hfar3 (rs' := rs)
  obtain ⟨S', hS'⟩ : ∃ S' : FS, { S with left := L, part := 0 } = S' := ⟨_, rfl⟩
  have S2 : Hid (S'.off = false ∧ S'.left = L ∧ S'.bs = bankL (hdR 1) rs k ∧ S'.s = S.s ∧ S'.n = S.n ∧ S'.wr ≤ 100000000) := by
    subst hS'; exact ⟨hoff.out, rfl, SBS.out, rfl, rfl, SWR.out⟩
  rw [hS'] at hK3
  have HK3 := Lib.hid hK3
  have HD3 := Lib.hid hD3
  have HB3 := Lib.hid hb3
  clear AR hf3 hfar3 hK3 hD3 hb3 SN tm hm hm' e5
  go_wp2_with fail
  refine (TK.out _ HB3.out).mono ?_
  rintro e w4 ⟨A1, n1, c1, rfl, ho1, hb4⟩
  have HO1 := Lib.hid ho1
  have HB4 := Lib.hid hb4
  clear ho1 hb4 TK
  go_wp2_with fail
  refine (TV.out _ (kp_call HB3.out HB4.out)).mono ?_
  rintro e w5 ⟨A2, n2, c2, rfl, ho2, hb5⟩
  have hb35 : Below w3.heap.size w3 w5 := kp_call HB4.out hb5
  have ho1' := HO1.out.below hb5 (Nat.le_refl _)
  have AD : Hid (Calls Tryd.prog 17 #[.pointer (some ⟨b, 0, none⟩), .slice A1 n1 c1, .slice A2 n2 c2] w5 (AddPost w5 w.heap.size b g a cc S' 0 8 key val)) := by
    have hx : g < w3.heap.size ∧ a < w3.heap.size := ⟨HK3.out.fl.alt, (HK3.out.fl.own.blk_lt rfl).2⟩
    have hy := HB4.out.size
    refine add_any8 HT.out (Nat.le_refl _) (kp_call HB3.out hb35) (HK3.out.below hb35) S2.out.1 A1 A2 n1 c1 n2 c2 key val ho1'.rb ho2.rb (fun _ d hd => ?_) (fun _ d hd => ?_) (by have := S2.out.2.2.2.2.2; omega)
    · subst hd; have := (ho1'.blk_lt rfl).1; omega
    · subst hd; have := (ho2.blk_lt rfl).1; omega
  have HD5 := Lib.hid (HD3.out.below hb35)
  have HB5 := Lib.hid (kp_call HB3.out hb35)
  have HK5 := Lib.hid (HK3.out.below hb35)
  clear ho2 hb5 hb35 ho1' HO1 HB4 HB3 HD3 HK3 TV
  go_wp2_with fail
  refine AD.out.mono ?_
  rintro e w6 ⟨T, r, rfl, hadd, hK6, hfar6⟩
  have hD6 := HD5.out.far hfar6 GA.out.1 GA.out.2
  have hb6 : Below w.heap.size w w6 := HB5.out.trans (hfar6.below HK5.out.fl.gb (HK5.out.fl.own.blk_lt rfl).1 HB5.out.size)
  have hbl' : (bankL (hdR 1) rs k).length = 8 * S'.s := by rw [S2.out.2.2.2.1]; exact HBL.out
  have hcs := add_armed 0 8 S' [] (hdR 1) [] rs k key val T r (by rw [S2.out.2.1]; exact HL.out.1) (by simpa using S2.out.2.2.1) (by simp) hbl' (hdR_len 1) SOK.out hadd
  have HD6 := Lib.hid hD6
  have HB6 := Lib.hid hb6
  have HBL' := Lib.hid hbl'
  clear AD hD6 hb6 hfar6 HD5 HB5 HK5 hadd hbl' HBL
  rcases hcs with ⟨hTS, hr⟩ | ⟨hfit, rfl, hT, hkk⟩ | ⟨rfl, rest, hrl, hq, hT⟩
  · have hTS2 := hTS.symm
    clear hTS
    subst hTS2
    have hoffT := S2.out.1
    have ON := Lib.hid (fon_on hK6.fl hoffT)
    have HK6 := Lib.hid hK6
    clear hK6 hoffT
    go_wp2_with fail
    refine ON.out.mono ?_
    rintro e w7 ⟨rfl, hf7, hfar7⟩
    have hK7 := HK6.out.next hf7 rfl rfl hfar7
    have hD7 := HD6.out.far hfar7 GA.out.1 GA.out.2
    have hb7 := HB6.out.trans (hfar7.below HK6.out.fl.gb (HK6.out.fl.own.blk_lt rfl).1 HB6.out.size)
    have LK := Lib.hid (look_seen (HT.out.below hb7) hK7 S2.out.1 S2.out.2.2.1 HBL'.out SOK.out (by have := hlen20.out; omega))
    have HD7 := Lib.hid hD7
    have HB7 := Lib.hid hb7
    clear ON hf7 hfar7 hK7 hD7 hb7 HK6 HD6 HB6
    go_wp2_with fail
    refine LK.out.mono ?_
    rintro e w8 ⟨B2, d2, ds2, he8, hpl2, hD2, hb8⟩
    subst he8
    have HD8 := Lib.hid (HD7.out.below hb8)
    have HB8 := Lib.hid (kp_call HB7.out hb8)
    have HD2 := Lib.hid hD2
    have HPL2 := Lib.hid hpl2
    clear LK hpl2 hD2 hb8 HD7 HB7
    rcases hr with rfl | rfl
    all_goals
      go_wp2_with fail
      refine (samerecs_any B B2 rs.length d rs.length d2 ds ds2 w8 HD8.out.dvs HD2.out.dvs (by have := hlen20.out; omega) (by have := hlen20.out; omega)).mono ?_
      rintro e w11 ⟨v, rfl, hv, hbo⟩
      obtain rfl : v = true := hv.2 (by rw [HPL2.out]; exact HPL.out)
      have HBO := Lib.hid (kp_call HB8.out hbo)
      clear hv hbo
      go_wp2_with fail
      refine (WK.out _ HBO.out).mono ?_
      rintro e w99 ⟨rfl, hb99⟩
      have HB99 := Lib.hid (kp_call HBO.out hb99)
      clear hb99 HBO
      go_wp2
      go_ret
      exact ⟨rfl, HB99.out⟩
  · have hoffT : T.off = false := by rw [hT]; exact S2.out.1
    have hbsT : T.bs = bankL (hdR 1) (rs ++ [⟨key, val, true⟩]) (k - (12 + key.length + val.length)) := by rw [hT]; simp
    have hsT : T.s = S'.s := by rw [hT]
    have HOFF := Lib.hid hoffT
    have HBS := Lib.hid hbsT
    have hbl : (bankL (hdR 1) (rs ++ [⟨key, val, true⟩]) (k - (12 + key.length + val.length))).length = 8 * T.s := by
      have h1 := HBL'.out
      rw [bankL_len] at h1 ⊢
      rw [layAll_snoc, List.length_append, lay_len, hsT]
      simp only
      omega
    have hok : ∀ r ∈ rs ++ [(⟨key, val, true⟩ : RL)], r.ok := fun x hx => by
      rcases List.mem_append.1 hx with hx | hx
      · exact SOK.out x hx
      · rw [List.mem_singleton.1 hx]; exact ⟨hfit.1, hfit.2.1, hfit.2.2⟩
    have HOK := Lib.hid hok
    have HBL2 := Lib.hid hbl
    have hl1 : (rs ++ [(⟨key, val, true⟩ : RL)]).length = rs.length + 1 := by simp
    clear hT hbsT hsT hbl hok hfit hkk
    have ON := Lib.hid (fon_on hK6.fl hoffT)
    have HK6 := Lib.hid hK6
    clear hK6 hoffT
    go_wp2_with fail
    refine ON.out.mono ?_
    rintro e w7 ⟨rfl, hf7, hfar7⟩
    have hK7 := HK6.out.next hf7 rfl rfl hfar7
    have hD7 := HD6.out.far hfar7 GA.out.1 GA.out.2
    have hb7 := HB6.out.trans (hfar7.below HK6.out.fl.gb (HK6.out.fl.own.blk_lt rfl).1 HB6.out.size)
    have LK := Lib.hid (look_seen (HT.out.below hb7) hK7 HOFF.out HBS.out HBL2.out HOK.out (by rw [hl1]; have := hlen20.out; omega))
    have HD7 := Lib.hid hD7
    have HB7 := Lib.hid hb7
    clear ON hf7 hfar7 hK7 hD7 hb7 HK6 HD6 HB6
    go_wp2_with fail
    refine LK.out.mono ?_
    rintro e w8 ⟨B2, d2, ds2, he8, hpl2, hD2, hb8⟩
    rw [hl1] at he8 hD2
    obtain ⟨N1, hN1⟩ : ∃ N1, rs.length + 1 = N1 := ⟨_, rfl⟩
    rw [hN1] at he8 hD2
    have HN1 := Lib.hid hN1
    clear hl1 hN1
    subst he8
    have HD8 := Lib.hid (HD7.out.below hb8)
    have HB8 := Lib.hid (kp_call HB7.out hb8)
    have HD2 := Lib.hid hD2
    have HPL2 := Lib.hid hpl2
    clear LK hpl2 hD2 hb8 HD7 HB7
    have hsz8 : Hid (w.heap.size ≤ w8.heap.size) := HB8.out.size
    go_wp2_with (at_builtin; refine wpList_appV drec_row _ _ rfl rfl rfl w8.heap.size (some ⟨w8.heap.size, 0, none⟩) 0 0 [] rfl (OwnR.lit w8 52 3 #[] 0 (Nat.zero_le _) rfl) B rs.length d (ds.flatMap DV.cells) rfl (by rw [dcells_len, HD8.out.dvs.len]) (HD8.out.row.reads.alloc _) (dcells_one ds) (by have := hlen20.out; unfold maxLen; omega) (by have := hlen20.out; omega) (by simp) ?_)
    intro M1 cm1 w9 ho9 hg9
    have HO9 : Hid (OwnR w9 w8.heap.size 52 3 M1 rs.length cm1 (ds.flatMap DV.cells)) := Lib.hid (by simpa using ho9)
    have HB89 : Hid (Below w8.heap.size w8 w9) := (kp_alloc (Below.refl _ _) _).grown hg9 (by simp) (fun g hg => by have h2 : some w8.heap.size = some g := hg; injection h2 with h2; omega)
    have H1c : Hid (∀ u ∈ (#[.slice KA kn kc, .slice VA vn vc, .bool true] : Array Value).toList, u.oneCell' = true) := by
      intro u hu; simp at hu; rcases hu with rfl | rfl | rfl <;> rfl
    clear ho9 hg9
    go_wp2_with (at_builtin; refine wpList_appL drec_row _ _ rfl rfl rfl w8.heap.size M1 rs.length cm1 _ rfl (HO9.out.alloc _) w9.heap.size 1 1 #[.slice KA kn kc, .slice VA vn vc, .bool true] _ rfl (has_new _ _) rfl H1c.out (by have := hlen20.out; unfold maxLen; omega) (by have := hlen20.out; omega) (by have := HB89.out.size; simp; omega) ?_)
    intro M2 cm2 w10 ho10 hg10
    have HB810 : Hid (Below w8.heap.size w8 w10) := (kp_alloc HB89.out _).grown hg10 (by have := HB89.out.size; simp; omega) (fun g hg => (HO9.out.blk_lt hg).1)
    have HBX := Lib.hid (kp_call HB8.out HB810.out)
    have HDM : Hid (DVs w10 M2 (rs.length + 1) (ds ++ [⟨KA, kn, kc, VA, vn, vc, key, val, true⟩])) := by
      have hd8 := HD8.out.below HB810.out
      refine ⟨by simp [HD8.out.dvs.len], ?_, fun x hx => ?_, fun x hx => ?_⟩
      · rw [List.flatMap_append]; exact ho10.reads
      · rcases List.mem_append.1 hx with hx | hx
        · exact hd8.dvs.bytes x hx
        · rw [List.mem_singleton.1 hx]
          exact ⟨RK.out _ HBX.out, RV.out _ HBX.out⟩
      · rcases List.mem_append.1 hx with hx | hx
        · exact hd8.dvs.lim x hx
        · rw [List.mem_singleton.1 hx]
          exact ⟨Nat.le_trans HKN.out.1 (by omega), Nat.le_trans HKN.out.2.1 (by omega)⟩
    have HPM : Hid ((ds ++ [(⟨KA, kn, kc, VA, vn, vc, key, val, true⟩ : DV)]).map DV.pl = rs ++ [⟨key, val, true⟩]) := by
      show _ = _
      rw [List.map_append, HPL.out]; rfl
    have HDX := Lib.hid (HD8.out.below HB810.out)
    have HD2X := Lib.hid (HD2.out.below HB810.out)
    clear ho10 hg10 HO9 HB89 HD8 HD2 HB810 HB8
    go_wp2_with fail
    refine (samerecs_any B2 M2 N1 d2 (rs.length + 1) cm2 ds2 _ w10 HD2X.out.dvs HDM.out (by have := hlen20.out; have := HN1.out; omega) (by have := hlen20.out; have := HN1.out; omega)).mono ?_
    rintro e w11 ⟨v, rfl, hv, hbo⟩
    obtain rfl : v = true := hv.2 (by rw [HPL2.out]; exact HPM.out.symm)
    have HBO := Lib.hid (kp_call HBX.out hbo)
    clear hv hbo
    go_wp2_with fail
    refine (WK.out _ HBO.out).mono ?_
    rintro e w99 ⟨rfl, hb99⟩
    have HB99 := Lib.hid (kp_call HBO.out hb99)
    clear hb99 HBO
    go_wp2
    go_ret
    exact ⟨rfl, HB99.out⟩
  · have hoffT : T.off = true := by rw [hT]
    have hbsT : T.bs = hdR 1 ++ layAll rs ++ rest := by rw [hT]; simp
    have hsT : T.s = S'.s := by rw [hT]
    have HBS := Lib.hid hbsT
    have HST := Lib.hid hsT
    have HQ := Lib.hid hq
    have hbl : (hdR 1 ++ layAll rs ++ rest).length = 8 * T.s := by
      have h1 := HBL'.out
      rw [bankL_len] at h1
      rw [List.length_append, List.length_append, hrl, hsT]
      omega
    have HBL2 := Lib.hid hbl
    clear hT hbsT hsT hbl hrl hq
    have ON := Lib.hid (fon_off hK6.fl hoffT)
    have HK6 := Lib.hid hK6
    clear hK6 hoffT
    go_wp2_with fail
    refine ON.out.mono ?_
    rintro e w7 ⟨rfl, hf7, hfar7⟩
    have hK7 := HK6.out.next hf7 rfl rfl hfar7
    have hD7 := HD6.out.far hfar7 GA.out.1 GA.out.2
    have hb7 := HB6.out.trans (hfar7.below HK6.out.fl.gb (HK6.out.fl.own.blk_lt rfl).1 HB6.out.size)
    obtain ⟨wh, hwh⟩ : ∃ wh, wholeB (hdR 1 ++ layAll rs ++ rest) (16 + (layAll rs).length) = wh := ⟨_, rfl⟩
    have LK := Lib.hid (look_any (HT.out.below hb7) hK7 rfl (hdR 1) rest rs (bank_of (A := []) (B := []) (by simpa using HBS.out) (by simp) HBL2.out) (hdR_len 1) SOK.out HQ.out (by have := hlen20.out; omega) wh hwh)
    clear hwh
    have HD7 := Lib.hid hD7
    have HB7 := Lib.hid hb7
    clear ON hf7 hfar7 hK7 hD7 hb7 HK6 HD6 HB6
    go_wp2_with fail
    refine LK.out.mono ?_
    rintro e w8 ⟨B2, d2, ds2, he8, hpl2, hD2, hb8⟩
    subst he8
    have HD8 := Lib.hid (HD7.out.below hb8)
    have HB8 := Lib.hid (kp_call HB7.out hb8)
    have HD2 := Lib.hid hD2
    have HPL2 := Lib.hid hpl2
    clear LK hpl2 hD2 hb8 HD7 HB7
    have hsz8 : Hid (w.heap.size ≤ w8.heap.size) := HB8.out.size
    go_wp2_with (at_builtin; refine wpList_appV drec_row _ _ rfl rfl rfl w8.heap.size (some ⟨w8.heap.size, 0, none⟩) 0 0 [] rfl (OwnR.lit w8 52 3 #[] 0 (Nat.zero_le _) rfl) B rs.length d (ds.flatMap DV.cells) rfl (by rw [dcells_len, HD8.out.dvs.len]) (HD8.out.row.reads.alloc _) (dcells_one ds) (by have := hlen20.out; unfold maxLen; omega) (by have := hlen20.out; omega) (by simp) ?_)
    intro M1 cm1 w9 ho9 hg9
    have HO9 : Hid (OwnR w9 w8.heap.size 52 3 M1 rs.length cm1 (ds.flatMap DV.cells)) := Lib.hid (by simpa using ho9)
    have HB89 : Hid (Below w8.heap.size w8 w9) := (kp_alloc (Below.refl _ _) _).grown hg9 (by simp) (fun g hg => by have h2 : some w8.heap.size = some g := hg; injection h2 with h2; omega)
    have H1c : Hid (∀ u ∈ (#[.slice KA kn kc, .slice VA vn vc, .bool true] : Array Value).toList, u.oneCell' = true) := by
      intro u hu; simp at hu; rcases hu with rfl | rfl | rfl <;> rfl
    clear ho9 hg9
    go_wp2_with (at_builtin; refine wpList_appL drec_row _ _ rfl rfl rfl w8.heap.size M1 rs.length cm1 _ rfl (HO9.out.alloc _) w9.heap.size 1 1 #[.slice KA kn kc, .slice VA vn vc, .bool true] _ rfl (has_new _ _) rfl H1c.out (by have := hlen20.out; unfold maxLen; omega) (by have := hlen20.out; omega) (by have := HB89.out.size; simp; omega) ?_)
    intro M2 cm2 w10 ho10 hg10
    have HB810 : Hid (Below w8.heap.size w8 w10) := (kp_alloc HB89.out _).grown hg10 (by have := HB89.out.size; simp; omega) (fun g hg => (HO9.out.blk_lt hg).1)
    have HBX := Lib.hid (kp_call HB8.out HB810.out)
    have HDM : Hid (DVs w10 M2 (rs.length + 1) (ds ++ [⟨KA, kn, kc, VA, vn, vc, key, val, true⟩])) := by
      have hd8 := HD8.out.below HB810.out
      refine ⟨by simp [HD8.out.dvs.len], ?_, fun x hx => ?_, fun x hx => ?_⟩
      · rw [List.flatMap_append]; exact ho10.reads
      · rcases List.mem_append.1 hx with hx | hx
        · exact hd8.dvs.bytes x hx
        · rw [List.mem_singleton.1 hx]
          exact ⟨RK.out _ HBX.out, RV.out _ HBX.out⟩
      · rcases List.mem_append.1 hx with hx | hx
        · exact hd8.dvs.lim x hx
        · rw [List.mem_singleton.1 hx]
          exact ⟨Nat.le_trans HKN.out.1 (by omega), Nat.le_trans HKN.out.2.1 (by omega)⟩
    have HPM : Hid ((ds ++ [(⟨KA, kn, kc, VA, vn, vc, key, val, true⟩ : DV)]).map DV.pl = rs ++ [⟨key, val, true⟩]) := by
      show _ = _
      rw [List.map_append, HPL.out]; rfl
    have HDX := Lib.hid (HD8.out.below HB810.out)
    have HD2X := Lib.hid (HD2.out.below HB810.out)
    clear ho10 hg10 HO9 HB89 HD8 HD2 HB810 HB8
    go_wp2_with fail
    refine (samerecs_any B2 B rs.length d2 rs.length d ds2 ds w10 HD2X.out.dvs HDX.out.dvs (by have := hlen20.out; omega) (by have := hlen20.out; omega)).mono ?_
    rintro e w11 ⟨v, rfl, hv, hbo⟩
    obtain rfl : v = true := hv.2 (by rw [HPL2.out]; exact HPL.out.symm)
    have HBO := Lib.hid (kp_call HBX.out hbo)
    clear hv hbo
    go_wp2_with fail
    refine (WK.out _ HBO.out).mono ?_
    rintro e w99 ⟨rfl, hb99⟩
    have HB99 := Lib.hid (kp_call HBO.out hb99)
    clear hb99 HBO
    go_wp2
    go_ret
    exact ⟨rfl, HB99.out⟩
end Go.Proofs.YtkajlbdiofobcaaDoor
