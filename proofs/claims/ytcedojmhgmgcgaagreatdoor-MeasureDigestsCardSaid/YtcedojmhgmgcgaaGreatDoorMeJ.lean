/-
  measure: Digest of an image.
-/
import Derived.Test.YtcedojmhgmgcgaaGreatDoorMeI
import Derived.Test.YtcedojmhgmgcgaaGreatDoorRiI
import Derived.Deep.RegionWith
namespace Go.Proofs.YtcedojmhgmgcgaaGreatDoor
open Go.RowKit Go
set_option linter.unusedVariables false
set_option linter.unusedSimpArgs false
set_option maxRecDepth 100000
attribute [local go_sem] Oper.semAt_some
theorem run_store_func {P : Program} {w : World} {a : Addr} {m : Mode} (f : Fn) (x y : Array Value) : (store a (.func f x y) m).run P w = stored P w a (.func f x y) m := run_store P w a _ m rfl
attribute [local go_sem] run_store_func
theorem hmf (fn : Fn) (first cap : Array Value) (w : World) : (Instr.makeFunc fn first cap).run Tryz.prog w = .ok (.func fn first cap) w := rfl
/-- The frame of a round, by what has been done. -/
def TD (iv : Array Value) (ba oa n c g gi S gW gx gs ge lo hi : Nat) (SA : Option Addr) (L : Array Bool) : Array Value :=
  #[.slice (some ⟨ba, oa, none⟩) n c, .pointer (some ⟨g, 0, none⟩), .pointer (some ⟨g + 1, 0, none⟩), .pointer (some ⟨g + 1 + 1, 0, none⟩), .int .i64 0, .pointer (some ⟨gi, 0, none⟩), .int .i64 0, .pointer (some ⟨S, 0, none⟩), .pointer (some ⟨S + 1, 0, none⟩), .pointer (some ⟨gW, 0, none⟩),
    .tuple #[.agg iv, .int .i64 0], .slice (some ⟨ba, oa, none⟩) n c, .tuple #[.agg iv, .int .i64 0], .agg iv, .int .i64 0, .int .i64 0, .bool false, undef, undef, undef, .pointer (some ⟨S, 0, none⟩), .pointer (some ⟨S, 0, none⟩),
    .func (.func 17) #[.pointer (some ⟨S, 0, none⟩)] #[], .agg iv, .slice (some ⟨ba, oa, none⟩) n c, .int .i64 (n : Nat), .func (.func 40) #[] #[.pointer (some ⟨gx, 0, none⟩), .pointer (some ⟨gs, 0, none⟩), .pointer (some ⟨ge, 0, none⟩)], .agg #[.int .i64 (lo : Nat), .int .i64 (hi : Nat)],
    gdi L 0 (.func (.func 17) #[.pointer (some ⟨S, 0, none⟩)] #[]), gdi L 1 (.slice (some ⟨ba, oa, none⟩) n c), gdi L 2 (.pointer (some ⟨gW, 0, none⟩)), gdi L 3 (.int .i64 (lo : Nat)), gdi L 4 (.pointer (some ⟨gW, 1, none⟩)), gdi L 5 (.int .i64 (hi : Nat)), gdi L 6 (.slice SA (hi - lo) (c - lo)), gdi L 7 (.tuple #[]), undef, undef, undef]
def DI (T : Array Bool → Array Value) (w0 : World) (F : World → Prop) (L : Array Bool) (a : Act) (W : World) : Prop :=
  a = ⟨T L, []⟩ ∧ if L.getD 7 false = true then F W ∧ ∀ j, j < 8 → L.getD j false = true else W = w0
theorem wp_nm9 {Q : Act → World → Prop} {a : Act} {w : World} (h : ∀ W, w = W → Q a W) : Q a w := h w rfl
theorem setCells_far {b k : Nat} (hk : k ≠ b) : ∀ (vs : List Value) (o : Nat) (w : World), (w.setCells b o vs).heap[k]? = w.heap[k]?
  | [], _, _ => rfl
  | v :: vs, o, w => by
    rw [World.setCells, setCells_far hk vs]
    simp only [World.setCell]
    rw [Array.getElem?_modify, if_neg (fun h => hk h.symm)]
theorem OwnR.frame {w w' : World} {base : Nat} {e : TypeId} {k : Nat} {A : Option Addr} {n c : Nat} {vs : List Value} (h : OwnR w base e k A n c vs) (hf : ∀ q, base ≤ q → q < w.heap.size → w'.heap[q]? = w.heap[q]?) : OwnR w' base e k A n c vs :=
  ⟨h.1, h.2.imp id fun ⟨g, cap, cur, h1, h2, h3, h4⟩ => ⟨g, cap, cur, h1, h2, (hf g h2 (block_lt h3)).trans h3, h4⟩⟩
theorem OwnB.frame {w w' : World} {base : Nat} {A : Option Addr} {n c : Nat} {bs : List UInt8} (h : OwnB w base A n c bs) (hf : ∀ q, base ≤ q → q < w.heap.size → w'.heap[q]? = w.heap[q]?) : OwnB w' base A n c bs := OwnR.frame h.row hf
theorem ImOwn.frame {w w' : World} {base : Nat} {im : Im} {V : Option Addr} {m cV : Nat} {U : Option Addr} {k cU : Nat} {xs : List Own1} (h : ImOwn base im V m cV U k cU xs w) (hf : ∀ q, base ≤ q → q < w.heap.size → w'.heap[q]? = w.heap[q]?) : ImOwn base im V m cV U k cU xs w' :=
  ⟨h.ml, h.secs.frame hf, h.kl, h.bytes, h.sigs.frame hf, ⟨fun x hx => ⟨(h.own.own x hx).1.frame hf, (h.own.own x hx).2⟩, h.own.far⟩⟩
theorem ImOwn.lower {w : World} {base base' : Nat} {im : Im} {V : Option Addr} {m cV : Nat} {U : Option Addr} {k cU : Nat} {xs : List Own1} (h : ImOwn base im V m cV U k cU xs w) (hb : base' ≤ base) : ImOwn base' im V m cV U k cU xs w :=
  ⟨h.ml, h.secs.lower hb, h.kl, h.bytes, h.sigs.lower hb, h.own.lower hb⟩
/-- The image's block stands in a world that grew. -/
def EI (w : World) (gi : Nat) (iv : Array Value) (W : World) : Prop := W.heap[gi]? = some (.cells iv 30) ∧ Below w.heap.size w W
section
variable {w W W' : World} {gi : Nat} {iv : Array Value}
theorem EI.drew (h : EI w gi iv W) : EI w gi iv W.drew := ⟨h.1, h.2.drew⟩
theorem EI.call (h : EI w gi iv W) (hb : Below W.heap.size W W') : EI w gi iv W' := ⟨has_below h.1 hb, kp_call h.2 hb⟩
theorem EI.setc (h : EI w gi iv W) {G o : Nat} (h1 : w.heap.size ≤ G) (h2 : gi ≠ G) (cs : List Value) : EI w gi iv (W.setCells G o cs) := ⟨ArrIs.farCells (vs := iv.toList) h2 cs o W h.1, Below.setCells h1 cs o W h.2⟩
theorem EI.set (h : EI w gi iv W) {G j : Nat} (h1 : w.heap.size ≤ G) (h2 : gi ≠ G) (u : Value) : EI w gi iv (W.setCell ⟨G, j, none⟩ u) := ⟨has_set h.1 h2, kp_set h.2 h1⟩
end
theorem rb_cutD {w : World} {ba oa n c lo : Nat} {bs : List UInt8} (h : RB w (some ⟨ba, oa, none⟩) n bs) (hnc : n ≤ c) (hlo : lo ≤ n) : RB w (if c = lo then some (⟨ba, oa, none⟩ : Addr) else some ⟨ba, oa + lo, none⟩) (n - lo) (bs.drop lo) := by
  refine ⟨by rw [List.length_drop, h.1], ?_⟩
  split
  · rename_i e
    have : bs.drop lo = [] := List.drop_eq_nil_of_le (by rw [h.1]; omega)
    rw [this]
    exact Bs.nil
  · have := h.2.drop_ lo
    simpa [Addr.add_lit] using this
theorem rb_takeD {w : World} {A : Option Addr} {n k : Nat} {bs : List UInt8} (h : RB w A n bs) (hk : k ≤ n) : RB w A k (bs.take k) := ⟨by rw [List.length_take, h.1]; omega, h.2.take_ k⟩
set_option maxHeartbeats 8000000 in
theorem digest_yes (A : Option Addr) (n c : Nat) (bs : List UInt8) (w : World) (hR : RB w A n bs) (hS : Sizes w) (hnc : n ≤ c) (hcc : c ≤ 9223372036854775807) (im : Im) (hq : parseQ bs = .inr im) :
    Calls Tryz.prog 6 #[.slice A n c] w fun e w' => (∃ (V : Option Addr) (m cV : Nat) (U : Option Addr) (k cU : Nat) (xs : List Own1), e = .returned (.tuple #[.agg ((digQ bs im).map v8).toArray, .agg (imVal im V m cV U k cU), .int .i64 0]) ∧ ImOwn w.heap.size im V m cV U k cU xs w') ∧ Below w.heap.size w w' := by
  have hnl := hR.1
  have hfit := im_fit bs im hq
  have hrise := rise_im bs im hq
  have himp := im_parts bs im hq
  have hn64 : 64 ≤ n ∧ n ≤ 16777216 := by omega
  obtain ⟨ba, oa, q0, hA, hba, _, _⟩ := hR.at_ (k := 0) (by omega)
  subst hA
  rw [hnl] at hfit
  have hdig : digQ bs im = sumQ ((hashedL bs (rangesM im n)).map UInt8.toNat) (hashedL bs (rangesM im n)).length := by unfold digQ; rw [hnl]
  rw [hnl] at hrise
  have hin : ∀ x ∈ rangesM im n, x.1 ≤ x.2 ∧ x.2 ≤ n := by
    intro x hx
    obtain ⟨i, hi⟩ := List.getElem?_of_mem hx
    obtain ⟨h1, h2, _⟩ := rise_at n _ _ _ _ hrise hi
    exact ⟨h1, h2⟩
  have HIN := Lib.hid hin
  have HDIG := Lib.hid hdig
  have HFIT := Lib.hid hfit
  have HQ := Lib.hid hq
  have HR := Lib.hid hR
  have HNL := Lib.hid hnl
  have hs1k := hfit.n
  obtain ⟨ds, hds⟩ : ∃ ds, ((digQ bs im).map v8).toArray = ds := ⟨_, rfl⟩
  have hdl : (digQ bs im).length = 32 := sumQ_len _ _
  have DSZ : Hid ((Tryz.prog.info? 25).map (·.size) = some ds.size) := by rw [← hds]; unfold Hid; rw [List.size_toArray, List.length_map, hdl]; kernel_rfl
  have DS1 : Hid (ds.size = zD.size) := by rw [← hds]; unfold Hid; rw [List.size_toArray, List.length_map, hdl]; rfl
  have DSO : Hid (ds.all (·.oneCell') = true) := by rw [← hds]; exact Lib.hid (dig_one _)
  have HDS := Lib.hid hds
  refine (callsIn_wide (n := 4)).1 ?_
  refine callsIn_of_wp_marks Tryz.func6 rfl trivial ?_ rfl
  simp only [Tryz.ntmps6, List.size_toArray, List.length_cons, List.length_nil, Nat.reduceAdd, Nat.reduceSub, Array.replicate_succ, Array.replicate_zero, List.push_toArray, List.append_toArray, List.nil_append, List.cons_append]
  refine wpIn_wide.2 ?_
  go_upto_region 1 with (fail)
  refine wp_nm fun W0 hW0 => ?_
  obtain ⟨g, hg⟩ : ∃ g, w.heap.size = g := ⟨_, rfl⟩
  have k1 : W0.heap[g]? = some (.cells #[.slice (some ⟨ba, oa, none⟩) n c] 22) := by rw [← hW0, ← hg]; exact has_alloc (has_alloc (has_new w _) _) _
  have k2 : W0.heap[g + 1]? = some (.cells zD 25) := by rw [← hW0]; exact has_alloc (has_new' _ _ _ (by simp [hg])) _
  have k3 : W0.heap[g + 2]? = some (.cells imZero 30) := by rw [← hW0]; exact has_new' _ _ _ (by simp [hg])
  have hb0 : Below w.heap.size w W0 := by rw [← hW0]; exact kp_alloc (kp_alloc (kp_alloc (Below.refl _ _) _) _) _
  have x1 := cells_1 k1
  have C := Lib.hid (parse_any (some ⟨ba, oa, none⟩) n c bs W0 (hR.below hb0) (hS.below' hb0) hnc hcc)
  have H0 := Lib.hid (And.intro k1 (And.intro k2 (And.intro k3 hb0)))
  have HGW := Lib.hid hg
  have HZ0 : Hid (W0.heap.size = g + 3) := by rw [← hW0]; exact Lib.hid (by simp [hg])
  rw [hg]
  clear hW0 k1 k2 k3 hb0 hR hS hq hg hnl hfit hrise himp hin hdig hds hdl
  go_wp2_with (fail)
  (with_reducible refine C.out.mono ?_)
  clear C
  rintro e w1 ⟨hp, hb1⟩
  rw [HQ.out] at hp
  obtain ⟨V, m, cV, U, k, cU, xs, rfl, him⟩ := hp
  have H1 := Lib.hid (And.intro (has_below H0.out.1 hb1) (And.intro (has_below H0.out.2.1 hb1) (And.intro (has_below H0.out.2.2.1 hb1) (And.intro (kp_call H0.out.2.2.2 hb1) him))))
  have HIM : Hid (ImOwn (g + 3) im V m cV U k cU xs w1) := by rw [← HZ0.out]; exact Lib.hid him
  clear hb1 x1 H0 him
  go_upto_region 2 with (refine wpList_store_row rfl _ _ _ rfl w1.heap.size (imVal im V m cV U k cU) rfl rfl _ _ (has_new w1 _) (by kernel_rfl) rfl (im_one8 im V m cV U k cU) ?_)
  refine wp_nm fun W3 hW3 => ?_
  have hb3 : Below w1.heap.size w1 W3 := by rw [← hW3]; exact below_setRow (kp_alloc (Below.refl _ _) _) (Nat.le_refl _) _
  have k4 : W3.heap[w1.heap.size]? = some (.cells (imVal im V m cV U k cU) 30) := by rw [← hW3]; exact setRow_heap _ _ _ _ _ _ (has_new w1 _)
  obtain ⟨gi, hgi⟩ : ∃ gi, w1.heap.size = gi := ⟨_, rfl⟩
  have HGI := Lib.hid hgi
  have HF1 : Hid (∀ q, q < gi → W3.heap[q]? = w1.heap[q]?) := by rw [← hgi]; exact Lib.hid (fun q hq => hb3.block q hq)
  rw [hgi] at k4 ⊢
  have hg2 : g + 2 < gi := by have := block_lt H1.out.2.2.1; omega
  have H3 := Lib.hid (And.intro (has_below H1.out.1 hb3) (And.intro (has_below H1.out.2.1 hb3) (And.intro (has_below H1.out.2.2.1 hb3) (And.intro (kp_call H1.out.2.2.2.1 hb3) (And.intro k4 (And.intro (H1.out.2.2.2.2.secs.below hb3 (Nat.le_refl _)) (And.intro (H1.out.2.2.2.2.sigs.below hb3 (Nat.le_refl _)) (And.intro (H1.out.2.2.2.2.own.below hb3) (And.intro H1.out.2.2.2.2.ml (And.intro H1.out.2.2.2.2.kl H1.out.2.2.2.2.bytes))))))))))
  clear hW3 hb3 H1 k4 hgi
  go_wp2_with (fail)
  refine (new_any W3).mono ?_
  rintro e w4 ⟨rfl, hw4⟩
  obtain ⟨S, hSS⟩ : ∃ S, W3.heap.size = S := ⟨_, rfl⟩
  have hk4 : Holds w4 S [] 0 := by rw [hw4]; exact holds_new W3 _ hSS.symm
  have hb4 : Below W3.heap.size W3 w4 := by rw [hw4]; exact kp_alloc (Below.refl _ _) _
  have hgS : gi < S := by have := block_lt H3.out.2.2.2.2.1; omega
  have hs4 : w4.heap.size = S + 1 := by rw [hw4]; simp [hSS]
  have HS4 := Lib.hid hs4
  have HK4 := Lib.hid hk4
  have HB4 := Lib.hid hb4
  rw [hSS]
  clear hw4 hs4 hk4 hb4 hSS
  go_upto_region 6 with (fail)
  refine wp_nm fun W5 hW5 => ?_
  have hs4 := HS4.out
  have hk4 := HK4.out
  have hb4 := HB4.out
  have k8 : W5.heap[S + 1]? = some (.cells #[.func (.func 17) #[.pointer (some ⟨S, 0, none⟩)] #[]] 50) := by rw [← hW5]; exact has_new' _ _ _ hs4.symm
  have hb5 : Below W3.heap.size W3 W5 := by rw [← hW5]; exact kp_alloc hb4 _
  have hk5 : Holds W5 S [] 0 := by rw [← hW5]; exact hk4.below (kp_alloc (Below.refl _ _) _)
  have hs5 : W5.heap.size = S + 2 := by rw [← hW5]; simp [hs4]
  rw [hs4]
  have HSZ := Lib.hid hs5
  have H5 := Lib.hid (And.intro (has_below H3.out.1 hb5) (And.intro (has_below H3.out.2.1 hb5) (And.intro (has_below H3.out.2.2.1 hb5) (And.intro (kp_call H3.out.2.2.2.1 hb5) (And.intro (has_below H3.out.2.2.2.2.1 hb5) (And.intro (H3.out.2.2.2.2.2.1.below hb5 (Nat.le_refl _)) (And.intro (H3.out.2.2.2.2.2.2.1.below hb5 (Nat.le_refl _)) (And.intro (H3.out.2.2.2.2.2.2.2.1.below hb5) (And.intro H3.out.2.2.2.2.2.2.2.2 (And.intro k8 hk5))))))))))
  have HF5 : Hid (∀ q, q < gi → W5.heap[q]? = w1.heap[q]?) := Lib.hid (fun q hq => (hb5.block q (by have := block_lt H3.out.2.2.2.2.1; omega)).trans (HF1.out q hq))
  have x1 := cells_1 H5.out.1
  have CR := Lib.hid (ranges_any im V m cV U k cU n W5 H5.out.2.2.2.2.2.1.reads H5.out.2.2.2.2.2.2.2.2.1.1 HFIT.out)
  clear hW5 k8 hb5 hk5 hs5 hs4 hb4 hk4 H3 HS4 HK4 HB4
  go_wp2_with (refine wpList_load_row rfl _ _ rfl gi rfl _ _ _ _ H5.out.2.2.2.2.1 Tryz.underlying30 rfl (by kernel_rfl) ?_)
  (with_reducible refine CR.out.mono ?_)
  clear CR x1
  rintro e w6 ⟨gx, gs, ge, A6, c6, rfl, hri, ho6, hb6, hx1, hx2, hx3⟩
  have hmb : m ≤ 1000 := by rw [H5.out.2.2.2.2.2.2.2.2.1.1]; exact hs1k
  have hsz5 := HSZ.out
  rw [hsz5] at hx1 hx2 hx3 ho6
  have hz6 : S + 2 ≤ w6.heap.size := by have := hb6.size; omega
  have I0 : Hid (ID w w6 S bs A6 m c6 ((riseL im.secs).flatMap secCells) [] w6) := by
    refine Lib.hid ⟨fun _ _ _ => rfl, kp_call H5.out.2.2.2.1 hb6, ?_, ho6.lower (by omega)⟩
    have := H5.out.2.2.2.2.2.2.2.2.2.2.below hb6
    exact this
  have HR6 := Lib.hid hri
  have HB6 := Lib.hid hb6
  have HALT : Hid (∀ g, blk A6 = some g → g < w6.heap.size) := Lib.hid (fun g hg => (ho6.blk_lt hg).2)
  have hwS : w.heap.size ≤ S := by rw [HGW.out]; omega
  have HF : Hid (∀ pre W, ID w w6 S bs A6 m c6 ((riseL im.secs).flatMap secCells) pre W → RngIs W gx gs ge (rngOf im V m cV U k cU A6 c6 n)) := by
    refine Lib.hid (fun pre W h => ?_)
    obtain ⟨h1, h2, h3, h4, h5, h6, h7, h8, h9, h10, h11⟩ := hri
    exact ⟨(h.old _ (block_lt h1) (by omega)).trans h1, (h.old _ (block_lt h2) (by omega)).trans h2, (h.old _ (block_lt h3) (by omega)).trans h3, h.row.reads, h5, h6, h7, h8, h9, h10, h11⟩
  have HZ : Hid (∀ pre W, ID w w6 S bs A6 m c6 ((riseL im.secs).flatMap secCells) pre W → w6.heap.size ≤ W.heap.size) := by
    refine Lib.hid (fun pre W h => ?_)
    rcases Nat.lt_or_ge W.heap.size w6.heap.size with h1 | h1
    · exfalso
      by_cases h2 : W.heap.size = S
      · have := h.st.lt; omega
      · have h3 := h.old W.heap.size h1 h2
        rw [Array.getElem?_eq_none (Nat.le_refl _), Array.getElem?_eq_getElem h1] at h3
        cases h3
    · exact h1
  clear hri ho6 hb6 hsz5
  go_wp2_with (fail)
  refine (wpIn_wide (n := 4)).1 ?_
  refine range_runQ (gf := 40) (lb := #[.pointer (some ⟨gx, 0, none⟩), .pointer (some ⟨gs, 0, none⟩), .pointer (some ⟨ge, 0, none⟩)]) rfl (enters_of Tryz.func40 (by kernel_rfl) rfl) (by omega) rngEnc (fun x => rfl) (fun _ => False) (fun b hb => hb.elim)
    (fun _ x _ => x ∈ rangesM im n) (ID w w6 S bs A6 m c6 ((riseL im.secs).flatMap secCells)) (fun _ _ => False) (fun xs _ => xs = rangesM im n) (fun _ => True) (m + 6)
    ?hS ?hI ?hIx ?h0 ?round ?iter ?done ?stop
  case hS => exact fun _ _ _ _ _ _ h => h
  case hI => exact fun pre W b o h1 h2 hi => hi.put h1 (by omega) hwS HALT.out
  case hIx => exact fun _ _ _ _ _ _ h => h.elim
  case h0 => exact fun o1 o2 => (I0.out.alloc (Nat.le_refl _) _).alloc (by simp) _
  case iter =>
    exact ranges2_in gx gs ge w6.heap.size (rngOf im V m cV U k cU A6 c6 n) _ HF.out (fun pre W o hi => hi.alloc (HZ.out _ _ hi) o)
  case stop => exact fun _ _ _ h => h.elim
  case round =>
    rintro pre x W r o hL hD hi hq hlen
    have hWz := HZ.out _ _ hi
    simp only [rngEnc]
    gi_wp2
    refine ⟨has_alloc hL _, has_alloc hD _, fun b hb => hb.elim, fun r' => ?_⟩
    have hx := HIN.out x hq
    obtain ⟨lo, hi9⟩ := x
    dsimp only at hx ⊢
    have hLlt := block_lt hL
    have b1 : ID w w6 S bs A6 m c6 ((riseL im.secs).flatMap secCells) pre ((W.alloc (.cells #[.int .i64 (lo : Nat), .int .i64 (hi9 : Nat)] 39)).putObj (w6.heap.size + 1) (.loop r')) := (hi.alloc hWz _).put (by omega) (by omega) hwS HALT.out
    have bL : ((W.alloc (.cells #[.int .i64 (lo : Nat), .int .i64 (hi9 : Nat)] 39)).putObj (w6.heap.size + 1) (.loop r')).heap[w6.heap.size + 1]? = some (.loop r') := World.putObj_heap_same (by simp; omega)
    have b9 : ((W.alloc (.cells #[.int .i64 (lo : Nat), .int .i64 (hi9 : Nat)] 39)).putObj (w6.heap.size + 1) (.loop r')).heap[W.heap.size]? = some (.cells #[.int .i64 (lo : Nat), .int .i64 (hi9 : Nat)] 39) := (World.putObj_heap_other (by omega)).trans (has_new _ _)
    have bB := block_lt b9
    generalize ((W.alloc (.cells #[.int .i64 (lo : Nat), .int .i64 (hi9 : Nat)] 39)).putObj (w6.heap.size + 1) (.loop r')) = Wb at *
    have c8 := cells_1 ((b1.old (S + 1) (by omega) (by omega)).trans (has_below H5.out.2.2.2.2.2.2.2.2.2.1 HB6.out))
    have c1 := cells_1 ((b1.old g (by omega) (by omega)).trans (has_below H5.out.1 HB6.out))
    obtain ⟨c90, c91⟩ := cells_2 b9
    obtain ⟨SA, hSA⟩ : ∃ SA : Option Addr, (if c = lo then some (⟨ba, oa, none⟩ : Addr) else some ⟨ba, oa + lo, none⟩) = SA := ⟨_, rfl⟩
    have hRF := rb_takeD (rb_cutD HR.out hnc (show lo ≤ n by omega)) (show hi9 - lo ≤ n - lo by omega)
    rw [hSA] at hRF
    have HRF : Hid (RB w SA (hi9 - lo) (seg bs (lo, hi9))) := Lib.hid hRF
    have hpl : pre.length ≤ 2000 := by omega
    have WP : Hid (∀ W9, ID w w6 S bs A6 m c6 ((riseL im.secs).flatMap secCells) pre W9 → Wb.heap.size ≤ W9.heap.size → Calls Tryz.prog 17 #[.pointer (some ⟨S, 0, none⟩), .slice SA (hi9 - lo) (c - lo)] W9 fun e w' => e = .returned (.tuple #[]) ∧ ID w w6 S bs A6 m c6 ((riseL im.secs).flatMap secCells) (pre ++ [(lo, hi9)]) w' ∧ W9.grownBy w' (some S)) := by
      refine Lib.hid (fun W9 h9 hz9 => (writes_piece w W9 S (some ⟨ba, oa, none⟩) SA n c lo hi9 bs pre HRF.out hwS h9.bel h9.st (by rw [HNL.out]; omega) hx.1 hx.2 HNL.out hnc hcc hpl).mono ?_)
      rintro e w' ⟨he, hs, hg⟩
      exact ⟨he, h9.write hwS (by have := block_lt bL; omega) hg hs, hg⟩
    have i3 : (0 : Int) ≤ (lo : Int) := by omega
    have i4 : (lo : Int) ≤ (hi9 : Int) := by omega
    have i5 : (hi9 : Int) ≤ (c : Int) := by omega
    have i6 : (lo : Int) ≤ (c : Int) := by omega
    have i4n : lo ≤ hi9 := by omega
    have i5n : hi9 ≤ c := by omega
    have HB1 := Lib.hid b1
    have HBL := Lib.hid bL
    have hSW : w6.heap.size + 1 < Wb.heap.size := block_lt bL
    clear b1 bL b9 hi hq hL hD hRF hx
    have W0s : Hid (ID w w6 S bs A6 m c6 ((riseL im.secs).flatMap secCells) pre Wb.drew) := Lib.hid ⟨HB1.out.old, HB1.out.bel.drew, HB1.out.st, HB1.out.row⟩
    have HSW6 : Hid (S < w6.heap.size) := Lib.hid (by omega)
    have HBL2 := Lib.hid (show w6.heap.size + 1 < Wb.heap.size from hSW)
    gi_wp2_with (fail)
    refine wpIn_region_invC (by kernel_rfl) (by kernel_rfl) (DI (TD (imVal im V m cV U k cU) ba oa n c g gi S W.heap.size gx gs ge lo hi9 SA) Wb.drew (fun W9 => ID w w6 S bs A6 m c6 ((riseL im.secs).flatMap secCells) (pre ++ [(lo, hi9)]) W9 ∧ Wb.drew.grownBy W9 (some S))) ?_ ?_ ?_
    · exact ⟨rfl, by rw [if_neg (by decide)]⟩
    · rintro L a W9 i ⟨rfl, hW9⟩ hC hclo
      have HCLO := Lib.hid hclo
      clear hclo
      have hsz := hC.size
      have hlt := hC.lt
      simp only [List.size_toArray, List.length_cons, List.length_nil] at hsz hlt
      have hi : i < L.size := by omega
      have hnot := hC.not
      have hW0 : i < 7 → W9 = Wb.drew ∧ L.getD 7 false = false := by
        intro h7
        cases h9 : L.getD 7 false with
        | false => rw [h9, if_neg (by decide)] at hW9; exact ⟨hW9, rfl⟩
        | true =>
          rw [h9, if_pos rfl] at hW9
          rw [hW9.2 i (by omega)] at hnot
          cases hnot
      rcases (show i = 0 ∨ i = 1 ∨ i = 2 ∨ i = 3 ∨ i = 4 ∨ i = 5 ∨ i = 6 ∨ i = 7 by omega) with rfl | rfl | rfl | rfl | rfl | rfl | rfl | rfl
      · obtain ⟨rfl, h7⟩ := hW0 (by decide)
        refine wpOpIn_step rfl rfl (fun K' hK => ?_)
        have HK := Lib.hid hK
        clear hK hW9 hnot
        simp only [TD]
        gi_wp2_with (fail)
        refine HK.out _ _ ⟨?_, by rw [lseti L 0 7 hi, h7]; rfl⟩
        simp +decide only [TD, Act.put, List.setIfInBounds_toArray, List.set_cons_zero, List.set_cons_succ, gdi_same _ _ _ hi, gdi_set _ _ _ _ hi]
        try simp only [if_true]
      · obtain ⟨rfl, h7⟩ := hW0 (by decide)
        refine wpOpIn_step rfl rfl (fun K' hK => ?_)
        have HK := Lib.hid hK
        clear hK hW9 hnot
        simp only [TD]
        gi_wp2_with (fail)
        refine HK.out _ _ ⟨?_, by rw [lseti L 1 7 hi, h7]; rfl⟩
        simp +decide only [TD, Act.put, List.setIfInBounds_toArray, List.set_cons_zero, List.set_cons_succ, gdi_same _ _ _ hi, gdi_set _ _ _ _ hi]
        try simp only [if_true]
      · obtain ⟨rfl, h7⟩ := hW0 (by decide)
        refine wpOpIn_step rfl rfl (fun K' hK => ?_)
        have HK := Lib.hid hK
        clear hK hW9 hnot
        simp only [TD]
        gi_wp2_with (fail)
        refine HK.out _ _ ⟨?_, by rw [lseti L 2 7 hi, h7]; rfl⟩
        simp +decide only [TD, Act.put, List.setIfInBounds_toArray, List.set_cons_zero, List.set_cons_succ, gdi_same _ _ _ hi, gdi_set _ _ _ _ hi]
        try simp only [if_true]
      · obtain ⟨rfl, h7⟩ := hW0 (by decide)
        have d0 := hC.dep (j := 2) (by kernel_rfl)
        refine wpOpIn_step rfl rfl (fun K' hK => ?_)
        have HK := Lib.hid hK
        clear hK hW9 hnot
        simp only [TD, gdi_yes _ d0]
        gi_wp2_with (fail)
        refine HK.out _ _ ⟨?_, by rw [lseti L 3 7 hi, h7]; rfl⟩
        simp +decide only [TD, Act.put, List.setIfInBounds_toArray, List.set_cons_zero, List.set_cons_succ, gdi_same _ _ _ hi, gdi_set _ _ _ _ hi]
        try simp only [gdi_yes _ d0]
      · obtain ⟨rfl, h7⟩ := hW0 (by decide)
        refine wpOpIn_step rfl rfl (fun K' hK => ?_)
        have HK := Lib.hid hK
        clear hK hW9 hnot
        simp only [TD]
        gi_wp2_with (fail)
        refine HK.out _ _ ⟨?_, by rw [lseti L 4 7 hi, h7]; rfl⟩
        simp +decide only [TD, Act.put, List.setIfInBounds_toArray, List.set_cons_zero, List.set_cons_succ, gdi_same _ _ _ hi, gdi_set _ _ _ _ hi]
        try simp only [if_true]
      · obtain ⟨rfl, h7⟩ := hW0 (by decide)
        have d0 := hC.dep (j := 4) (by kernel_rfl)
        refine wpOpIn_step rfl rfl (fun K' hK => ?_)
        have HK := Lib.hid hK
        clear hK hW9 hnot
        simp only [TD, gdi_yes _ d0]
        gi_wp2_with (fail)
        refine HK.out _ _ ⟨?_, by rw [lseti L 5 7 hi, h7]; rfl⟩
        simp +decide only [TD, Act.put, List.setIfInBounds_toArray, List.set_cons_zero, List.set_cons_succ, gdi_same _ _ _ hi, gdi_set _ _ _ _ hi]
        try simp only [gdi_yes _ d0]
      · obtain ⟨rfl, h7⟩ := hW0 (by decide)
        have d0 := hC.dep (j := 1) (by kernel_rfl)
        have d1 := hC.dep (j := 3) (by kernel_rfl)
        have d2 := hC.dep (j := 5) (by kernel_rfl)
        refine wpOpIn_step rfl rfl (fun K' hK => ?_)
        have HK := Lib.hid hK
        clear hK hW9 hnot
        simp only [TD, gdi_yes _ d0, gdi_yes _ d1, gdi_yes _ d2]
        gi_wp2_with (fail)
        refine HK.out _ _ ⟨?_, by rw [lseti L 6 7 hi, h7]; rfl⟩
        simp +decide only [TD, Act.put, List.setIfInBounds_toArray, List.set_cons_zero, List.set_cons_succ, gdi_same _ _ _ hi, gdi_set _ _ _ _ hi]
        try simp only [gdi_yes _ d0, gdi_yes _ d1, gdi_yes _ d2]
      · have d0 := hC.dep (j := 0) (by kernel_rfl)
        have d1 := hC.dep (j := 6) (by kernel_rfl)
        have h7 : L.getD 7 false = false := hnot
        rw [h7, if_neg (by decide)] at hW9
        subst hW9
        refine wpOpIn_step rfl rfl (fun K' hK => ?_)
        have HK := Lib.hid hK
        have hall : ∀ j, j < 8 → (L.setIfInBounds 7 true).getD j false = true := by
          intro j hj
          rw [lseti L 7 j hi]
          have q1 := HCLO.out 6 1 d1 (by kernel_rfl)
          have q3 := HCLO.out 6 3 d1 (by kernel_rfl)
          have q5 := HCLO.out 6 5 d1 (by kernel_rfl)
          have q2 := HCLO.out 3 2 q3 (by kernel_rfl)
          have q4 := HCLO.out 5 4 q5 (by kernel_rfl)
          rcases (show j = 0 ∨ j = 1 ∨ j = 2 ∨ j = 3 ∨ j = 4 ∨ j = 5 ∨ j = 6 ∨ j = 7 by omega) with rfl | rfl | rfl | rfl | rfl | rfl | rfl | rfl <;> simp [d0, d1, q1, q2, q3, q4, q5]
        have HALL := Lib.hid hall
        clear hK hnot hall
        simp only [TD, gdi_yes _ d0, gdi_yes _ d1]
        gi_wp2_with (fail)
        refine ⟨trivial, ((callsIn_wide.2 (WP.out Wb.drew W0s.out (Nat.le_refl _))).inRound _).mono ?_⟩
        rintro e w9 ⟨rfl, hI9, hg9⟩
        refine HK.out _ _ ⟨?_, by rw [lseti L 7 7 hi]; exact ⟨⟨hI9, hg9⟩, HALL.out⟩⟩
        simp +decide only [TD, Act.put, List.setIfInBounds_toArray, List.set_cons_zero, List.set_cons_succ, gdi_same _ _ _ hi, gdi_set _ _ _ _ hi]
        try simp only [gdi_yes _ d0, gdi_yes _ d1]
    · rintro L a W9 ⟨rfl, hW9⟩ hsz hall
      rw [hall 7 (by decide), if_pos rfl] at hW9
      obtain ⟨⟨hI9, hg9⟩, _⟩ := hW9
      refine ⟨(hg9.block (w6.heap.size + 1) HBL2.out (fun e => by have e' := Option.some.inj e; have := HSW6.out; omega)).trans HBL.out, hg9.block w6.heap.size (show w6.heap.size < Wb.heap.size by have := HBL2.out; omega) (fun e => by have e' := Option.some.inj e; have := HSW6.out; omega), fun b hb => hb.elim, hI9⟩
  case done =>
    rintro xs W rfl hi hD
    have hWz := HZ.out _ _ hi
    have hSUM := Lib.hid (fun W9 (h : Below W.heap.size W W9) => stsum_any S _ _ W9 (hi.st.below h) (by
      have h1 := hashed_le bs (rangesM im n)
      have h2 : (rangesM im n).length ≤ 2000 := by
        unfold rangesM rangesL headR secR tailR
        have h9 := HFIT.out.n
        have h8 := (riseL_perm im.secs).length_eq
        split <;> simp <;> omega
      have h3 : (rangesM im n).length * bs.length ≤ 2000 * 16777216 := Nat.mul_le_mul h2 (by rw [HNL.out]; omega)
      omega))
    rw [← HDIG.out, HDS.out] at hSUM
    have kg := (hi.old g (by omega) (by omega)).trans (has_below H5.out.1 HB6.out)
    have kg1 := (hi.old (g + 1) (by omega) (by omega)).trans (has_below H5.out.2.1 HB6.out)
    have kg2 := (hi.old (g + 2) (by omega) (by omega)).trans (has_below H5.out.2.2.1 HB6.out)
    have kgi := (hi.old gi (by omega) (by omega)).trans (has_below H5.out.2.2.2.2.1 HB6.out)
    have EK : Hid (∀ W9, EI w gi #[.bool im.plus, .int .i64 (im.check : Nat), .int .i64 (im.dir : Nat), .int .u32 (im.hdr : Nat), .slice V m cV, .int .u32 (im.table : Nat), .int .u32 (im.length : Nat), .slice U k cU] W9 → (W9.cell? ⟨gi, 0, none⟩ = some (.bool im.plus) ∧ W9.cell? ⟨gi, 1, none⟩ = some (.int .i64 (im.check : Nat)) ∧ W9.cell? ⟨gi, 2, none⟩ = some (.int .i64 (im.dir : Nat)) ∧ W9.cell? ⟨gi, 3, none⟩ = some (.int .u32 (im.hdr : Nat)) ∧ W9.cell? ⟨gi, 4, none⟩ = some (.slice V m cV) ∧ W9.cell? ⟨gi, 5, none⟩ = some (.int .u32 (im.table : Nat)) ∧ W9.cell? ⟨gi, 6, none⟩ = some (.int .u32 (im.length : Nat)) ∧ W9.cell? ⟨gi, 7, none⟩ = some (.slice U k cU)) ∧ EI w gi #[.bool im.plus, .int .i64 (im.check : Nat), .int .i64 (im.dir : Nat), .int .u32 (im.hdr : Nat), .slice V m cV, .int .u32 (im.table : Nat), .int .u32 (im.length : Nat), .slice U k cU] W9) := Lib.hid (fun W9 h => ⟨cells_8 h.1, h⟩)
    have E0 : EI w gi #[.bool im.plus, .int .i64 (im.check : Nat), .int .i64 (im.dir : Nat), .int .u32 (im.hdr : Nat), .slice V m cV, .int .u32 (im.table : Nat), .int .u32 (im.length : Nat), .slice U k cU] W := ⟨kgi, hi.bel⟩
    have dso : ∀ v ∈ ds.toList, v.oneCell' = true := by
      have := DSO.out
      rw [Array.all_eq_true_iff_forall_mem] at this
      exact fun v hv => this v (by simpa using hv)
    have HT1 : Hid (∀ v1 : World, Below W.heap.size W v1 → v1.there (g + 1) 0 ds.toList.length ∧ (v1.setCells (g + 1) 0 ds.toList).heap[g + 2]? = some (.cells #[.bool false, .int .i64 0, .int .i64 0, .int .u32 0, .slice none 0 0, .int .u32 0, .int .u32 0, .slice none 0 0] 30)) := by
      refine Lib.hid (fun v1 h => ⟨ArrIs.there (vs := zD.toList) (has_below kg1 h) 0 _ (by have := DS1.out; simp at this ⊢; omega), ?_⟩)
      exact ArrIs.farCells (g := g + 2) (t := 30) (vs := imZero.toList) (by omega) ds.toList 0 _ (has_below kg2 h)
    have hg1 : w.heap.size ≤ g + 1 := by have := HGW.out; omega
    have hg2w : w.heap.size ≤ g + 2 := by have := HGW.out; omega
    have hgi1 : gi ≠ g + 1 := by omega
    have hgi2 : gi ≠ g + 2 := by omega
    have HI := Lib.hid hi
    have HDD := Lib.hid hD
    have HK := Lib.hid (And.intro kg1 (And.intro kg2 kgi))
    clear hi hD kg kg1 kg2 kgi
    go_wp2_with (fail)
    go_region_held3 (fun W9 => (W9.cell? ⟨gi, 0, none⟩ = some (.bool im.plus) ∧ W9.cell? ⟨gi, 1, none⟩ = some (.int .i64 (im.check : Nat)) ∧ W9.cell? ⟨gi, 2, none⟩ = some (.int .i64 (im.dir : Nat)) ∧ W9.cell? ⟨gi, 3, none⟩ = some (.int .u32 (im.hdr : Nat)) ∧ W9.cell? ⟨gi, 4, none⟩ = some (.slice V m cV) ∧ W9.cell? ⟨gi, 5, none⟩ = some (.int .u32 (im.table : Nat)) ∧ W9.cell? ⟨gi, 6, none⟩ = some (.int .u32 (im.length : Nat)) ∧ W9.cell? ⟨gi, 7, none⟩ = some (.slice U k cU)) ∧ EI w gi #[.bool im.plus, .int .i64 (im.check : Nat), .int .i64 (im.dir : Nat), .int .u32 (im.hdr : Nat), .slice V m cV, .int .u32 (im.table : Nat), .int .u32 (im.length : Nat), .slice U k cU] W9)
      ((apply EK.out; repeat (with_reducible (first | assumption | refine EI.drew ?_ | refine EI.call ?_ (by assumption) | refine EI.setc ?_ (by assumption) (by assumption) _ | refine EI.set ?_ (by assumption) (by assumption) _))))
      (first
        | (go_at_call 19; (with_reducible refine (hSUM.out _ (by first | exact Below.refl _ _ | exact Below.drew (Below.refl _ _))).mono ?_); (rintro e v1 ⟨rfl, hv1⟩; have f3 : Below W.heap.size W v1 := kp_call (by first | exact Below.refl _ _ | exact Below.drew (Below.refl _ _)) hv1; have e3 := E0.call f3; obtain ⟨th1, kk⟩ := HT1.out v1 f3; obtain ⟨a0, a1, a2, a3, a4, a5, a6, a7⟩ := cells_8 kk; obtain ⟨b0, b1, b2, b3, b4, b5, b6, b7⟩ := free_8 kk; have HV1 := Lib.hid f3; have HKK := Lib.hid kk; clear hv1 f3 kk)))
    have hkk := HKK.out
    refine wp_nm9 fun W9 hW9 => ?_
    have q2 : W9.heap[g + 2]? = some (.cells (imVal im V m cV U k cU) 30) := by rw [← hW9]; exact set_8 hkk
    have q1 : W9.heap[g + 1]? = some (.cells ds 25) := by
      rw [← hW9]
      refine (far_8 _ _ _ (by omega)).trans ?_
      have h1 := ArrIs.setAt (g := g + 1) (t := 25) (w := v1) (pre := []) (post := []) (mid := zD.toList) (by simpa [ArrIs] using has_below HK.out.1 HV1.out) 0 ds.toList rfl (by have := DS1.out; simp at this ⊢; omega)
      simpa [ArrIs] using h1
    have q3 : Below w.heap.size w W9 := by rw [← hW9]; exact below_8 (Below.setCells hg1 _ _ _ e3.2) hg2w
    have q4 : W9.heap[w6.heap.size]? = some (.deferred (some [])) := by
      rw [← hW9]
      refine (far_8 _ _ _ (by omega)).trans ?_
      refine (setCells_far (by omega) _ _ _).trans ?_
      exact has_below HDD.out HV1.out
    have q5 : ∀ q, g + 3 ≤ q → q < w1.heap.size → W9.heap[q]? = w1.heap[q]? := by
      intro q h1 h2
      rw [HGI.out] at h2
      rw [← hW9]
      refine (far_8 _ _ _ (by omega)).trans ((setCells_far (by omega) _ _ _).trans ((HV1.out.block q (by omega)).trans ((HI.out.old q (by omega) (by omega)).trans ((HB6.out.block q (by have := HSZ.out; omega)).trans (HF5.out q h2)))))
    have Q := Lib.hid (And.intro q1 (And.intro q2 (And.intro q3 (And.intro q4 q5))))
    have hD6 : g + 2 < w6.heap.size := by omega
    have hwg : w.heap.size ≤ g := by have := HGW.out; omega
    have hw6 : w.heap.size ≤ w6.heap.size := by omega
    clear hW9 q1 q2 q3 q4 q5 hkk a0 a1 a2 a3 a4 a5 a6 a7 b0 b1 b2 b3 b4 b5 b6 b7 e3 th1 HKK HV1 E0 EK HT1 dso HK HI
    go_wp2_with (fail)
    refine ⟨by simp, .inl ⟨_, _, rfl, run_takeDeferred Q.out.2.2.2.1, ?_⟩⟩
    have r1 : (W9.putObj w6.heap.size (.deferred none)).heap[g + 1]? = some (.cells ds 25) := (World.putObj_heap_other (by omega)).trans Q.out.1
    have r2 : (W9.putObj w6.heap.size (.deferred none)).heap[g + 2]? = some (.cells (imVal im V m cV U k cU) 30) := (World.putObj_heap_other (by omega)).trans Q.out.2.1
    refine ⟨_, results_cct rfl _ (LV.agg r1 Tryz.underlying25 rfl DSZ.out) (LV.agg r2 Tryz.underlying30 rfl (by kernel_rfl)), ?_⟩
    refine ⟨⟨V, m, cV, U, k, cU, xs, by rw [HDS.out]; rfl, ?_⟩, Q.out.2.2.1.grown (grownBy_putObj' W9 _ _) Q.out.2.2.1.size (fun q e => by injection e with e; omega)⟩
    refine (HIM.out.frame (w' := W9.putObj w6.heap.size (.deferred none)) (fun q h1 h2 => (World.putObj_heap_other (by have := HGI.out; omega)).trans (Q.out.2.2.2.2 q h1 h2))).lower (by omega)
end Go.Proofs.YtcedojmhgmgcgaaGreatDoor
