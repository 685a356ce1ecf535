/-
  SolitonMean.
-/
import Derived.Test.YtejocefblpkdjabGreatJSAdd
import Derived.Test.YtejocefblpkdjabGreatJKit
import Derived.Test.YtejocefblpkdjabGreatJRatB
import Derived.Test.YtejocefblpkdjabGreatRoundHeld
namespace Go.Proofs.YtejocefblpkdjabGreat
open Go.RowKit

def NotSame (n : Nat) (u v : Value) : Prop := ∀ k1 k2 : Nat, u = .slice (some ⟨k1, 0, none⟩) n n → v = .slice (some ⟨k2, 0, none⟩) n n → k1 ≠ k2
theorem NotSame.symm {n : Nat} : ∀ u v, NotSame n u v → NotSame n v u := fun _ _ h k1 k2 e1 e2 => Ne.symm (h k2 k1 e2 e1)
def MadeF (W : World) (n : Nat) (k1 k2 k3 : Nat) (Y : World) : Prop := k1 ≠ k2 ∧ k1 ≠ k3 ∧ k2 ≠ k3 ∧ Intz W.heap.size Y (.slice (some ⟨k1, 0, none⟩) n n) (List.replicate n 0) ∧ Intz W.heap.size Y (.slice (some ⟨k2, 0, none⟩) n n) (List.replicate n 0) ∧ Intz W.heap.size Y (.slice (some ⟨k3, 0, none⟩) n n) (List.replicate n 0) ∧ Below W.heap.size W Y
theorem mp_made {F : Nat → Nat → Nat → World → Prop} {p : Nat → Nat → Nat → World → Prop} {q : Prop} (f : (∀ k1 k2 k3 Y, F k1 k2 k3 Y → p k1 k2 k3 Y) → q) (p : ∀ k1 k2 k3 Y, F k1 k2 k3 Y → p k1 k2 k3 Y) : q := f p
theorem made_leaf {n : Nat} {Z : Obj} (hz : ∀ w : World, Intz w.heap.size (w.alloc Z) (.slice (some ⟨w.heap.size, 0, none⟩) n n) (List.replicate n 0)) (W : World) : ∀ i j k : Nat, i < 3 → j < 3 → k < 3 → i ≠ j → i ≠ k → j ≠ k → MadeF W n (W.heap.size + i) (W.heap.size + j) (W.heap.size + k) (((W.drew.alloc Z).alloc Z).alloc Z) := by
  have b1 := below_new W.drew Z
  have b2 := below_new (W.drew.alloc Z) Z
  have b3 := below_new ((W.drew.alloc Z).alloc Z) Z
  have e0 : W.drew.heap.size = W.heap.size := rfl
  have e1 : (W.drew.alloc Z).heap.size = W.heap.size + 1 := by simp [e0]
  have e2 : ((W.drew.alloc Z).alloc Z).heap.size = W.heap.size + 2 := by simp [e0]
  have z0 := ((hz W.drew).below b2).below b3
  have z1 := (hz (W.drew.alloc Z)).below b3
  have z2 := hz ((W.drew.alloc Z).alloc Z)
  rw [e0] at z0
  rw [e1] at z1
  rw [e2] at z2
  have H : ∀ i, i < 3 → Intz W.heap.size (((W.drew.alloc Z).alloc Z).alloc Z) (.slice (some ⟨W.heap.size + i, 0, none⟩) n n) (List.replicate n 0) := fun i hi => by
    have : i = 0 ∨ i = 1 ∨ i = 2 := by omega
    rcases this with rfl | rfl | rfl
    · exact z0
    · exact z1.mono (by omega)
    · exact z2.mono (by omega)
  have hb : Below W.heap.size W (((W.drew.alloc Z).alloc Z).alloc Z) := (((Below.drew (Below.refl W.heap.size W)).trans (b1.mono (Nat.le_refl _))).trans (b2.mono (by omega))).trans (b3.mono (by omega))
  intro i j k hi hj hk h1 h2 h3
  exact ⟨by omega, by omega, by omega, H i hi, H j hj, H k hk, hb⟩
theorem Intz.below_lo {lo L : Nat} {W W' : World} {a : Option Addr} {n cap : Nat} {zs : List Int} (h : Intz lo W (.slice a n cap) zs) (hb : Below L W W') (hl : zs ≠ [] → ∀ b o, a = some ⟨b, o, none⟩ → b < L) : Intz lo W' (.slice a n cap) zs := by
  obtain ⟨hw, a', cap', e, h1, h3⟩ := h
  refine ⟨hw, a', cap', e, h1, fun hz => ?_⟩
  obtain ⟨b, off, e1, e2, e3, e4, e5⟩ := h3 hz
  simp only [Value.slice.injEq] at e
  have hh := hb.block b (hl hz b off (by rw [e.1, e1]))
  exact ⟨b, off, e1, e2, Nat.lt_of_lt_of_le e3 hb.size, fun j hj => (World.cell?_of_block (a := ⟨b, off + j, none⟩) hh).trans (e4 j hj), fun j hj => (World.frozen?_of_block (a := ⟨b, off + j, none⟩) hh).trans (e5 j hj)⟩
theorem half_next {zs : List Int} {n i : Nat} (hn : zs.length = n) (hi : i < n) : (halfL (zs.take i) ++ List.replicate (n - i) 0).set i (zs[i]?.getD 0 / 2) = halfL (zs.take (i + 1)) ++ List.replicate (n - (i + 1)) 0 := by
  rw [set_zeros (by rw [halfL_len, List.length_take]; omega) hi, take_snoc (by omega)]
  simp only [halfL, List.map_append, List.map_cons, List.map_nil]
theorem twice_next {zs : List Int} {n i : Nat} (hn : zs.length = n) (hi : i < n) : (twiceL (zs.take i) ++ List.replicate (n - i) 0).set i (2 * (zs[i]?.getD 0 / 2)) = twiceL (zs.take (i + 1)) ++ List.replicate (n - (i + 1)) 0 := by
  rw [set_zeros (by rw [twiceL_len, List.length_take]; omega) hi, take_snoc (by omega)]
  simp only [twiceL, List.map_append, List.map_cons, List.map_nil]
theorem half_at {zs : List Int} {n i : Nat} (hn : zs.length = n) (hi : i < n) : (halfL (zs.take (i + 1)) ++ List.replicate (n - (i + 1)) 0)[i]?.getD 0 = zs[i]?.getD 0 / 2 := by
  rw [List.getElem?_append_left (by rw [halfL_len, List.length_take]; omega), halfL_get, List.getElem?_take_of_lt (by omega)]
theorem fr_zero (W : World) : Fr 0 W none 0 [] none 0 [] := ⟨Seg.nil _ _, Seg.nil _ _⟩
theorem may_more {zs : List Int} (h : MayT zs 60) : MayT zs 65536 := by
  obtain ⟨h1, h2, h3, h4, h5, h6⟩ := h
  exact ⟨by decide, by decide, h3, by omega, h5, h6⟩
set_option maxRecDepth 100000 in
set_option maxHeartbeats 4000000 in
theorem ltmean_long {lo : Nat} {a : Option Addr} {n c : Nat} {zs : List Int} {w : World} (XT : Intz lo w (.slice a n c) zs) (x : Int) (h : 60 < n) :
    Calls Tryz.prog 3 #[.slice a n c, .int .i64 x] w fun e w' => e = .returned (.bool true) ∧ Below w.heap.size w w' := by
  have hd : decide (60 < (n : Int)) = true := decide_eq_true (by omega)
  have hB := Below.refl w.heap.size w
  go_enter Tryz.func3, Tryz.ntmps3
  go_wp2_with fail
  refine (lt_awake_any _).mono ?_
  rintro e w1 ⟨rfl, hb⟩
  replace XT := XT.below hb
  replace hB := hB.trans (hb.mono hB.size)
  have zz1 := hb.size
  have zh1 := hB.size
  clear hb
  go_wp2
  go_ret
  exact ⟨rfl, hB⟩

set_option maxRecDepth 100000 in
set_option maxHeartbeats 4000000 in
theorem ltmean_no {lo : Nat} {a : Option Addr} {n c : Nat} {zs : List Int} {w : World} (XT : Intz lo w (.slice a n c) zs) (x : Int) (h : n ≤ 60) (h2 : ¬ chkT zs 60 = 0) :
    Calls Tryz.prog 3 #[.slice a n c, .int .i64 x] w fun e w' => e = .returned (.bool true) ∧ Below w.heap.size w w' := by
  have hd : decide (60 < (n : Int)) = false := decide_eq_false (by omega)
  have HC60 : Hid (chkT zs 60 = 13) := by
    rw [Hid]
    unfold chkT at h2 ⊢
    split
    · rename_i g; rw [if_pos g] at h2; exact absurd rfl h2
    · rfl
  clear h2
  have hB := Below.refl w.heap.size w
  go_enter Tryz.func3, Tryz.ntmps3
  go_wp2_with fail
  refine (lt_awake_any _).mono ?_
  rintro e w1 ⟨rfl, hb⟩
  replace XT := XT.below hb
  replace hB := hB.trans (hb.mono hB.size)
  have zz1 := hb.size
  have zh1 := hB.size
  clear hb
  go_wp2_with fail
  have hk := tscheck_any XT 60
  rw [HC60.out] at hk
  refine (hk).mono ?_
  rintro e w2 ⟨rfl, hb⟩
  replace XT := XT.below hb
  replace hB := hB.trans (hb.mono hB.size)
  have zz2 := hb.size
  have zh2 := hB.size
  clear hb
  clear hk
  go_wp2
  go_ret
  exact ⟨rfl, hB⟩

set_option maxRecDepth 100000 in
set_option maxHeartbeats 4000000 in
theorem ltmean_yes {lo : Nat} {a : Option Addr} {n c : Nat} {zs : List Int} {w : World} (XT : Intz lo w (.slice a n c) zs) (x : Int) (h : n ≤ 60) (h2 : chkT zs 60 = 0) (h3 : chkT (halfL zs) 65536 = 0) :
    Calls Tryz.prog 3 #[.slice a n c, .int .i64 x] w fun e w' => e = .returned (.bool true) ∧ Below w.heap.size w w' := by
  have HXW := hide XT.block
  have hd : decide (60 < (n : Int)) = false := decide_eq_false (by omega)
  have HC60 := hide h2
  have hm60 := chkT_iff.1 h2
  have hmm := may_more hm60
  have HC : Hid (chkT zs 65536 = 0) := chkT_yes hmm
  have hnl := XT.len.1
  have HN : Hid (zs.length = n) := hnl.symm
  have hn0 : 0 < n := by have := hmm.2.2.1; omega
  obtain ⟨hl1, hl2⟩ := mean_within hm60 (by omega)
  rw [← hnl] at hl1 hl2
  obtain ⟨Q, hQ⟩ : ∃ Q, Rat.divInt (wsum zs n) (totT zs) = Q := ⟨_, rfl⟩
  have HQ : Hid (Rat.divInt (wsum zs zs.length) (totT zs) = Q) := by rw [Hid, ← hnl]; exact hQ
  rw [hQ] at hl1 hl2
  obtain ⟨lv, hlv⟩ : ∃ lv, cmpR Q (Rat.divInt 1 1) = lv := ⟨_, rfl⟩
  obtain ⟨hv, hhv⟩ : ∃ hv, cmpR Q (Rat.divInt (n : Int) 1) = hv := ⟨_, rfl⟩
  rw [hlv] at hl1
  rw [hhv] at hl2
  have HLV := hide hlv
  have HHV := hide hhv
  have hlf : decide (lv < 0) = false := decide_eq_false (by omega)
  have hhf : decide (0 < hv) = false := decide_eq_false (by omega)
  have HIN : Hid (∀ i, i < n → 0 ≤ zs[i]?.getD 0 ∧ zs[i]?.getD 0 ≤ 16777215) := fun i hi => hmm.2.2.2.2.1 _ (getD_mem (by omega))
  have HC1A : Hid (∀ j, j < n → chkT (oneL n j) 65536 = 0) := fun j hj => chkT_yes (oneL_may hj h)
  have HQ1A : Hid (∀ j, j < n → Rat.divInt (wsum (oneL n j) (oneL n j).length) (totT (oneL n j)) = Rat.divInt ((j : Int) + 1) 1) := fun j hj => oneL_mean hj h
  have hhm := chkT_iff.1 h3
  have htm := (half_iff hmm.2.2.2.2.1).1 hhm
  have HCH := hide h3
  have HCT : Hid (chkT (twiceL zs) 65536 = 0) := chkT_yes htm
  have hQ2 := half_mean hhm htm (by omega)
  obtain ⟨Q2, hQQ⟩ : ∃ Q2, Rat.divInt (wsum (halfL zs) (halfL zs).length) (totT (halfL zs)) = Q2 := ⟨_, rfl⟩
  rw [hQQ] at hQ2
  have HQH := hide hQQ
  have HQT := hide hQ2
  clear hhm htm hQ2 hQQ
  clear hQ hlv hhv hm60 hmm hnl h2 h3
  have hB := Below.refl w.heap.size w
  go_enter Tryz.func3, Tryz.ntmps3
  go_wp2_with fail
  refine (lt_awake_any _).mono ?_
  rintro e w1 ⟨rfl, hb⟩
  replace XT := XT.below hb
  replace hB := hB.trans (hb.mono hB.size)
  have zz1 := hb.size
  have zh1 := hB.size
  clear hb
  go_wp2_with fail
  have hk := tscheck_any XT 60
  rw [HC60.out] at hk
  refine (hk).mono ?_
  rintro e w2 ⟨rfl, hb⟩
  replace XT := XT.below hb
  replace hB := hB.trans (hb.mono hB.size)
  have zz2 := hb.size
  have zh2 := hB.size
  clear hb
  clear hk
  go_wp2_with fail
  have hk := (tsmean_any XT).mono (fun _ _ h => h.2 HC.out)
  rw [HQ.out] at hk
  refine (hk).mono ?_
  rintro e w3 ⟨g1, a1, c1, x1, e1, t1, y1, rfl, F1, P1, I1, hb⟩
  replace I1 : Is g1 x1 y1 (Q) (1) := I1.mono (by omega)
  replace XT := XT.below hb
  replace hB := hB.trans (hb.mono hB.size)
  have zz3 := hb.size
  have zh3 := hB.size
  clear hb
  clear hk
  have hs0 := Nat.le_refl w3.heap.size
  have hq := below_new w3 (.cells #[.bool g1, .slice a1 x1.length c1, .slice e1 y1.length t1] 31)
  replace XT := XT.below hq
  replace F1 := F1.below hq
  have E1 := Box.put (w := w3) (k := (w3.heap.size)) (.cells #[.bool g1, .slice a1 x1.length c1, .slice e1 y1.length t1] 31) rfl
  replace hs0 := Nat.le_trans hs0 hq.size
  replace hB := hB.trans (hq.mono hB.size)
  clear hq
  go_wp2_with fail
  obtain ⟨u4, hname⟩ := nm hB
  rw [hname] at hs0 hB XT F1 E1 ⊢
  have zh4 := hB.size
  have zs4 := hs0
  clear hname hs0
  replace XT := XT.drew
  replace F1 := F1.drew
  have qE1 := E1.lt
  replace E1 := E1.drew
  refine wp_yields 4 [.is (.agg #[.bool g1, .slice a1 x1.length c1, .slice e1 y1.length t1]), (Yield.frac u4.heap.size (Rat.divInt 1 1) (1)), (.is (.tuple #[.int .i64 lv, .int .i64 0])), .is (.tuple #[.int .i64 lv, .int .i64 0])] (by kernel_rfl) (by kernel_rfl) (lt_cons ?_ (lt_cons ?_ (lt_cons ?_ (lt_cons ?_ lt_nil)))) ?_
  case refine_1 =>
    refine OpDoes.mk rfl ?_
    intro vs V hV hd K hK
    have d2 : vs 2 = .tuple #[.int .i64 lv, .int .i64 0] := hd 2 (by decide) (by kernel_rfl)
    simp only [laidIn, lz1, lz2, lz3, lz4, lz5, lz6, if_true, Act.put, lz7, lz8, lz9] at hK ⊢
    simp only [d2] at hK ⊢
    go_simp
    exact hK.out _ _ (Below.refl _ _) rfl (not_fresh rfl)
  case refine_2 =>
    refine OpDoes.mk rfl ?_
    intro vs V hV hd K hK
    have d0 : vs 0 = .agg #[.bool g1, .slice a1 x1.length c1, .slice e1 y1.length t1] := hd 0 (by decide) (by kernel_rfl)
    have hh := fun (P : Prop) => Yield.frac_elim P (show ((Yield.frac u4.heap.size (Rat.divInt 1 1) (1)) : Yield).At (vs 1) V from hd 1 (by decide) (by kernel_rfl))
    refine hh _ ?_
    intro g2 a2 c2 x2 e2 t2 y2 d1 F2 P2 I2
    clear hh
    simp only [laidIn, lz1, lz2, lz3, lz4, lz5, lz6, if_true, Act.put, lz7, lz8, lz9] at hK ⊢
    simp only [d0, d1] at hK ⊢
    go_simp
    go_at_call 7
    have hc := pcmp_ok g1 g2 (F1.below hV) F2 I1 I2 (by omega)
    rw [HLV.out] at hc
    refine (hc).mono ?_
    rintro e V' ⟨rfl, hb⟩
    exact hK.out _ _ hb rfl (not_fresh rfl)
  case refine_3 =>
    refine OpDoes.mk rfl ?_
    intro vs V hV hd K hK
    simp only [laidIn, lz1, lz2, lz3, lz4, lz5, lz6, if_true, Act.put, lz7, lz8, lz9] at hK ⊢
    go_simp
    go_at_call 8
    refine (lt_part_any 1 1 (by omega) (by decide) (by decide) _).mono ?_
    rintro e V' ⟨g2, a2, c2, x2, e2, t2, y2, rfl, F2, P2, I2, hb⟩
    replace I2 : Is g2 x2 y2 (Rat.divInt 1 1) (1) := I2.mono (by omega)
    exact hK.out _ _ hb ⟨_, _, _, _, _, _, _, rfl, F2.mono hV.size, P2, I2⟩ (not_fresh rfl)
  case refine_4 =>
    refine OpDoes.mk rfl ?_
    intro vs V hV hd K hK
    have hcc := (E1.below hV).three
    have k0 := hcc.1
    have k1 := hcc.2.1
    have k2 := hcc.2.2.1
    clear hcc
    simp only [laidIn, lz1, lz2, lz4, lz5, lz6, if_true, Act.put, lz7, lz8, lz9] at hK ⊢
    go_simp
    exact hK.out _ _ (Below.refl _ _) rfl (not_fresh rfl)
  case refine_5 =>
    intro vs Y1 hV hR hne fuel
    have d0 : vs 0 = .agg #[.bool g1, .slice a1 x1.length c1, .slice e1 y1.length t1] := hR 0 (by decide)
    have hh := fun (P : Prop) => Yield.frac_elim P (show ((Yield.frac u4.heap.size (Rat.divInt 1 1) (1)) : Yield).At (vs 1) Y1 from hR 1 (by decide))
    refine hh _ ?_
    intro g2 a2 c2 x2 e2 t2 y2 d1 F2 P2 I2
    clear hh
    have d2 : vs 2 = .tuple #[.int .i64 lv, .int .i64 0] := hR 2 (by decide)
    have d3 : vs 3 = .tuple #[.int .i64 lv, .int .i64 0] := hR 3 (by decide)
    replace XT := XT.below hV
    replace F1 := F1.below hV
    replace E1 := E1.below hV
    have hr := hV
    simp only [laidIn, lz4, lz5, lz6, if_true, Act.put, lz7, lz8, lz9]
    simp only [d0, d1, d2, d3]
    clear hR hne hV d0 d1 d2 d3
    clear vs
    show wpAny _ _ _ _ (fuel + 4) _ _ _
    apply mp_of
    case f =>
      intro hgoal
      refine wpAny_all (rs := [4, 5]) (by kernel_rfl) (by simp) (fun i hi => ?_)
      rcases (show i = 4 ∨ i = 5 by simpa using hi) with rfl | rfl
      · clear hi
        refine wpOp_step rfl (fun K hK => ?_)
        simp only [lz1, lz2, lz3]
        rw [if_pos (by rfl)]
        go_simp
        refine hK _ _ ?_
        clear hK
        refine wpAny_all (rs := [5, 6]) (by kernel_rfl) (by simp) (fun i hi => ?_)
        rcases (show i = 5 ∨ i = 6 by simpa using hi) with rfl | rfl
        · clear hi
          refine wpOp_step rfl (fun K hK => ?_)
          simp only [lz1, lz2, lz3]
          rw [if_pos (by rfl)]
          go_simp
          refine hK _ _ ?_
          clear hK
          refine wpAny_all (rs := [6]) (by kernel_rfl) (by simp) (fun i hi => ?_)
          obtain rfl : i = 6 := by simpa using hi
          clear hi
          refine wpOp_step rfl (fun K hK => ?_)
          simp only [lz1, lz2, lz3]
          rw [if_pos (by rfl)]
          go_simp
          refine hK _ _ ?_
          clear hK
          refine wpAny_all (rs := [7]) (by kernel_rfl) (by simp) (fun i hi => ?_)
          obtain rfl : i = 7 := by simpa using hi
          clear hi
          refine wpOp_step rfl (fun K hK => ?_)
          simp only [lz1, lz2, lz3]
          rw [if_pos (by rfl)]
          go_simp
          refine hK _ _ ?_
          clear hK
          refine wpAny_done (by kernel_rfl) ?_ _
          exact hgoal
        · clear hi
          refine wpOp_step rfl (fun K hK => ?_)
          simp only [lz1, lz2, lz3]
          rw [if_pos (by rfl)]
          go_simp
          refine hK _ _ ?_
          clear hK
          refine wpAny_all (rs := [5]) (by kernel_rfl) (by simp) (fun i hi => ?_)
          obtain rfl : i = 5 := by simpa using hi
          clear hi
          refine wpOp_step rfl (fun K hK => ?_)
          simp only [lz1, lz2, lz3]
          rw [if_pos (by rfl)]
          go_simp
          refine hK _ _ ?_
          clear hK
          refine wpAny_all (rs := [7]) (by kernel_rfl) (by simp) (fun i hi => ?_)
          obtain rfl : i = 7 := by simpa using hi
          clear hi
          refine wpOp_step rfl (fun K hK => ?_)
          simp only [lz1, lz2, lz3]
          rw [if_pos (by rfl)]
          go_simp
          refine hK _ _ ?_
          clear hK
          refine wpAny_done (by kernel_rfl) ?_ _
          exact hgoal
      · clear hi
        refine wpOp_step rfl (fun K hK => ?_)
        simp only [lz1, lz2, lz3]
        rw [if_pos (by rfl)]
        go_simp
        refine hK _ _ ?_
        clear hK
        refine wpAny_all (rs := [4]) (by kernel_rfl) (by simp) (fun i hi => ?_)
        obtain rfl : i = 4 := by simpa using hi
        clear hi
        refine wpOp_step rfl (fun K hK => ?_)
        simp only [lz1, lz2, lz3]
        rw [if_pos (by rfl)]
        go_simp
        refine hK _ _ ?_
        clear hK
        refine wpAny_all (rs := [6]) (by kernel_rfl) (by simp) (fun i hi => ?_)
        obtain rfl : i = 6 := by simpa using hi
        clear hi
        refine wpOp_step rfl (fun K hK => ?_)
        simp only [lz1, lz2, lz3]
        rw [if_pos (by rfl)]
        go_simp
        refine hK _ _ ?_
        clear hK
        refine wpAny_all (rs := [7]) (by kernel_rfl) (by simp) (fun i hi => ?_)
        obtain rfl : i = 7 := by simpa using hi
        clear hi
        refine wpOp_step rfl (fun K hK => ?_)
        simp only [lz1, lz2, lz3]
        rw [if_pos (by rfl)]
        go_simp
        refine hK _ _ ?_
        clear hK
        refine wpAny_done (by kernel_rfl) ?_ _
        exact hgoal
    case p =>
      replace hB := hB.trans ((Below.trans (Below.drew (Below.refl u4.heap.size u4)) hr).mono hB.size)
      have zz4_0 := hr.size
      have zi1 := hB.size
      clear hr
      clear F2 I2
      obtain ⟨k0, k1, k2, f0, f1, f2⟩ := E1.three
      go_wp2_with fail
      clear k0 k1 k2 f0 f1 f2
      replace XT := XT.drew
      replace F1 := F1.drew
      have qE1 := E1.lt
      replace E1 := E1.drew
      refine wp_yields 6 [.is (.agg #[.bool g1, .slice a1 x1.length c1, .slice e1 y1.length t1]), .is (.slice a n c), .is (.int .i64 (n : Int)), (Yield.frac Y1.heap.size (Rat.divInt (n : Int) 1) (1)), (.is (.tuple #[.int .i64 hv, .int .i64 0])), .is (.tuple #[.int .i64 hv, .int .i64 0])] (by kernel_rfl) (by kernel_rfl) (lt_cons ?_ (lt_cons ?_ (lt_cons ?_ (lt_cons ?_ (lt_cons ?_ (lt_cons ?_ lt_nil)))))) ?_
      case refine_1 =>
        refine OpDoes.mk rfl ?_
        intro vs V hV hd K hK
        have d4 : vs 4 = .tuple #[.int .i64 hv, .int .i64 0] := hd 4 (by decide) (by kernel_rfl)
        simp only [laidIn, lz1, lz2, lz3, lz4, lz5, lz6, if_true, Act.put, lz7, lz8, lz9] at hK ⊢
        simp only [d4] at hK ⊢
        go_simp
        exact hK.out _ _ (Below.refl _ _) rfl (not_fresh rfl)
      case refine_2 =>
        refine OpDoes.mk rfl ?_
        intro vs V hV hd K hK
        have d0 : vs 0 = .agg #[.bool g1, .slice a1 x1.length c1, .slice e1 y1.length t1] := hd 0 (by decide) (by kernel_rfl)
        have hh := fun (P : Prop) => Yield.frac_elim P (show ((Yield.frac Y1.heap.size (Rat.divInt (n : Int) 1) (1)) : Yield).At (vs 3) V from hd 3 (by decide) (by kernel_rfl))
        refine hh _ ?_
        intro g3 a3 c3 x3 e3 t3 y3 d3 F3 P3 I3
        clear hh
        simp only [laidIn, lz1, lz2, lz3, lz4, lz5, lz6, if_true, Act.put, lz7, lz8, lz9] at hK ⊢
        simp only [d0, d3] at hK ⊢
        go_simp
        go_at_call 7
        have hc := pcmp_ok g1 g3 (F1.below hV) F3 I1 I3 (by omega)
        rw [HHV.out] at hc
        refine (hc).mono ?_
        rintro e V' ⟨rfl, hb⟩
        exact hK.out _ _ hb rfl (not_fresh rfl)
      case refine_3 =>
        refine OpDoes.mk rfl ?_
        intro vs V hV hd K hK
        have d2 : vs 2 = .int .i64 (n : Int) := hd 2 (by decide) (by kernel_rfl)
        simp only [laidIn, lz1, lz2, lz3, lz4, lz5, lz6, if_true, Act.put, lz7, lz8, lz9] at hK ⊢
        simp only [d2] at hK ⊢
        go_simp
        go_at_call 8
        refine (lt_part_any (n : Int) 1 (by omega) (by decide) (by decide) _).mono ?_
        rintro e V' ⟨g3, a3, c3, x3, e3, t3, y3, rfl, F3, P3, I3, hb⟩
        replace I3 : Is g3 x3 y3 (Rat.divInt (n : Int) 1) (1) := I3.mono (by omega)
        exact hK.out _ _ hb ⟨_, _, _, _, _, _, _, rfl, F3.mono hV.size, P3, I3⟩ (not_fresh rfl)
      case refine_4 =>
        refine OpDoes.mk rfl ?_
        intro vs V hV hd K hK
        have d1 : vs 1 = .slice a n c := hd 1 (by decide) (by kernel_rfl)
        simp only [laidIn, lz1, lz2, lz3, lz4, lz5, lz6, if_true, Act.put, lz7, lz8, lz9] at hK ⊢
        simp only [d1] at hK ⊢
        go_simp
        exact hK.out _ _ (Below.refl _ _) rfl (not_fresh rfl)
      case refine_5 =>
        refine OpDoes.mk rfl ?_
        intro vs V hV hd K hK
        simp only [laidIn, lz1, lz2, lz3, lz4, lz5, lz6, if_true, Act.put, lz7, lz8, lz9] at hK ⊢
        go_simp
        exact hK.out _ _ (Below.refl _ _) rfl (not_fresh rfl)
      case refine_6 =>
        refine OpDoes.mk rfl ?_
        intro vs V hV hd K hK
        have hcc := (E1.below hV).three
        have k0 := hcc.1
        have k1 := hcc.2.1
        have k2 := hcc.2.2.1
        clear hcc
        simp only [laidIn, lz1, lz2, lz4, lz5, lz6, if_true, Act.put, lz7, lz8, lz9] at hK ⊢
        go_simp
        exact hK.out _ _ (Below.refl _ _) rfl (not_fresh rfl)
      case refine_7 =>
        intro vs Y2 hV hR hne fuel
        have d0 : vs 0 = .agg #[.bool g1, .slice a1 x1.length c1, .slice e1 y1.length t1] := hR 0 (by decide)
        have d1 : vs 1 = .slice a n c := hR 1 (by decide)
        have d2 : vs 2 = .int .i64 (n : Int) := hR 2 (by decide)
        have hh := fun (P : Prop) => Yield.frac_elim P (show ((Yield.frac Y1.heap.size (Rat.divInt (n : Int) 1) (1)) : Yield).At (vs 3) Y2 from hR 3 (by decide))
        refine hh _ ?_
        intro g3 a3 c3 x3 e3 t3 y3 d3 F3 P3 I3
        clear hh
        have d4 : vs 4 = .tuple #[.int .i64 hv, .int .i64 0] := hR 4 (by decide)
        have d5 : vs 5 = .tuple #[.int .i64 hv, .int .i64 0] := hR 5 (by decide)
        replace XT := XT.below hV
        replace F1 := F1.below hV
        replace E1 := E1.below hV
        have hr := hV
        simp only [laidIn, lz4, lz5, lz6, if_true, Act.put, lz7, lz8, lz9]
        simp only [d0, d1, d2, d3, d4, d5]
        clear hR hne hV d0 d1 d2 d3 d4 d5
        clear vs
        show wpAny _ _ _ _ (fuel + 4) _ _ _
        apply mp_of
        case f =>
          intro hgoal
          refine wpAny_all (rs := [6, 7]) (by kernel_rfl) (by simp) (fun i hi => ?_)
          rcases (show i = 6 ∨ i = 7 by simpa using hi) with rfl | rfl
          · clear hi
            refine wpOp_step rfl (fun K hK => ?_)
            simp only [lz1, lz2, lz3]
            rw [if_pos (by rfl)]
            go_simp
            refine hK _ _ ?_
            clear hK
            refine wpAny_all (rs := [7, 8]) (by kernel_rfl) (by simp) (fun i hi => ?_)
            rcases (show i = 7 ∨ i = 8 by simpa using hi) with rfl | rfl
            · clear hi
              refine wpOp_step rfl (fun K hK => ?_)
              simp only [lz1, lz2, lz3]
              rw [if_pos (by rfl)]
              go_simp
              refine hK _ _ ?_
              clear hK
              refine wpAny_all (rs := [8]) (by kernel_rfl) (by simp) (fun i hi => ?_)
              obtain rfl : i = 8 := by simpa using hi
              clear hi
              refine wpOp_step rfl (fun K hK => ?_)
              simp only [lz1, lz2, lz3]
              rw [if_pos (by rfl)]
              go_simp
              refine hK _ _ ?_
              clear hK
              refine wpAny_all (rs := [9]) (by kernel_rfl) (by simp) (fun i hi => ?_)
              obtain rfl : i = 9 := by simpa using hi
              clear hi
              refine wpOp_step rfl (fun K hK => ?_)
              simp only [lz1, lz2, lz3]
              rw [if_pos (by rfl)]
              go_simp
              refine hK _ _ ?_
              clear hK
              refine wpAny_done (by kernel_rfl) ?_ _
              exact hgoal
            · clear hi
              refine wpOp_step rfl (fun K hK => ?_)
              simp only [lz1, lz2, lz3]
              rw [if_pos (by rfl)]
              go_simp
              refine hK _ _ ?_
              clear hK
              refine wpAny_all (rs := [7]) (by kernel_rfl) (by simp) (fun i hi => ?_)
              obtain rfl : i = 7 := by simpa using hi
              clear hi
              refine wpOp_step rfl (fun K hK => ?_)
              simp only [lz1, lz2, lz3]
              rw [if_pos (by rfl)]
              go_simp
              refine hK _ _ ?_
              clear hK
              refine wpAny_all (rs := [9]) (by kernel_rfl) (by simp) (fun i hi => ?_)
              obtain rfl : i = 9 := by simpa using hi
              clear hi
              refine wpOp_step rfl (fun K hK => ?_)
              simp only [lz1, lz2, lz3]
              rw [if_pos (by rfl)]
              go_simp
              refine hK _ _ ?_
              clear hK
              refine wpAny_done (by kernel_rfl) ?_ _
              exact hgoal
          · clear hi
            refine wpOp_step rfl (fun K hK => ?_)
            simp only [lz1, lz2, lz3]
            rw [if_pos (by rfl)]
            go_simp
            refine hK _ _ ?_
            clear hK
            refine wpAny_all (rs := [6]) (by kernel_rfl) (by simp) (fun i hi => ?_)
            obtain rfl : i = 6 := by simpa using hi
            clear hi
            refine wpOp_step rfl (fun K hK => ?_)
            simp only [lz1, lz2, lz3]
            rw [if_pos (by rfl)]
            go_simp
            refine hK _ _ ?_
            clear hK
            refine wpAny_all (rs := [8]) (by kernel_rfl) (by simp) (fun i hi => ?_)
            obtain rfl : i = 8 := by simpa using hi
            clear hi
            refine wpOp_step rfl (fun K hK => ?_)
            simp only [lz1, lz2, lz3]
            rw [if_pos (by rfl)]
            go_simp
            refine hK _ _ ?_
            clear hK
            refine wpAny_all (rs := [9]) (by kernel_rfl) (by simp) (fun i hi => ?_)
            obtain rfl : i = 9 := by simpa using hi
            clear hi
            refine wpOp_step rfl (fun K hK => ?_)
            simp only [lz1, lz2, lz3]
            rw [if_pos (by rfl)]
            go_simp
            refine hK _ _ ?_
            clear hK
            refine wpAny_done (by kernel_rfl) ?_ _
            exact hgoal
        case p =>
          replace hB := hB.trans ((Below.trans (Below.drew (Below.refl Y1.heap.size Y1)) hr).mono hB.size)
          have zz4_0 := hr.size
          have zi2 := hB.size
          clear hr
          clear F3 I3
          clear F1 E1 I1
          go_wp2_with fail
          refine (pick_is (n : Int) (by omega) (by omega) x _).mono ?_
          rintro e w5 ⟨pw, hpw, rfl, hb⟩
          have hpn : pw < n := by omega
          have HC1 := hide (HC1A.out pw hpn)
          have HQ1 := hide (HQ1A.out pw hpn)
          clear HC1A HQ1A
          replace XT := XT.below hb
          replace hB := hB.trans (hb.mono hB.size)
          have zz5 := hb.size
          have zh5 := hB.size
          clear hb
          go_wp2_with fail
          have HXB : Hid (zs ≠ [] → ∀ b o, a = some ⟨b, o, none⟩ → b < w5.heap.size) := fun hz b o e => Nat.lt_of_lt_of_le (HXW.out hz b o e) hB.size
          obtain ⟨ZZ, hmk, hmz⟩ := intz_make n (by omega)
          apply mp_made (F := MadeF w5 n)
          case f =>
            intro hgoal
            refine wp_region_held_drew (S := fun _ : World => True) (by kernel_rfl) trivial (fun hHeld => ?_)
            refine wpAnyH_take (i := 0) (v := ?_) rfl (by kernel_rfl) (by kernel_rfl) (by kernel_rfl) (fun _ _ _ h => h) (Or.inl ⟨by rfl, ?_⟩) (by assumption) ?_
            rotate_left
            · intro w hSw
              try dsimp only at hSw
              go_simp
              try with_reducible rfl
            simp only [Act.put, lz7, lz8, lz9, lz1, lz2]
            refine wpAnyH_take (i := 1) (v := ?_) rfl (by kernel_rfl) (by kernel_rfl) (by kernel_rfl) (fun _ _ _ h => h) (Or.inl ⟨by rfl, ?_⟩) (by assumption) ?_
            rotate_left
            · intro w hSw
              try dsimp only at hSw
              go_simp
              try with_reducible rfl
            simp only [Act.put, lz7, lz8, lz9, lz1, lz2, lz3]
            refine wpAnyH_take (i := 3) (v := ?_) rfl (by kernel_rfl) (by kernel_rfl) (by kernel_rfl) (fun _ _ _ h => h) (Or.inl ⟨by rfl, ?_⟩) (by assumption) ?_
            rotate_left
            · intro w hSw
              try dsimp only at hSw
              go_simp
              try with_reducible rfl
            simp only [Act.put, lz7, lz8, lz9, lz1, lz2, lz3]
            refine wpAnyH_take (i := 4) (v := ?_) rfl (by kernel_rfl) (by kernel_rfl) (by kernel_rfl) (fun _ _ _ h => h) (Or.inl ⟨by rfl, ?_⟩) (by assumption) ?_
            rotate_left
            · intro w hSw
              try dsimp only at hSw
              go_simp
              try with_reducible rfl
            simp only [Act.put, lz7, lz8, lz9, lz1, lz2, lz3]
            refine wpAnyH_take (i := 6) (v := ?_) rfl (by kernel_rfl) (by kernel_rfl) (by kernel_rfl) (fun _ _ _ h => h) (Or.inl ⟨by rfl, ?_⟩) (by assumption) ?_
            rotate_left
            · intro w hSw
              try dsimp only at hSw
              go_simp
              try with_reducible rfl
            simp only [Act.put, lz7, lz8, lz9, lz1, lz2, lz3]
            refine wpAnyH_take (i := 7) (v := ?_) rfl (by kernel_rfl) (by kernel_rfl) (by kernel_rfl) (fun _ _ _ h => h) (Or.inl ⟨by rfl, ?_⟩) (by assumption) ?_
            rotate_left
            · intro w hSw
              try dsimp only at hSw
              go_simp
              try with_reducible rfl
            simp only [Act.put, lz7, lz8, lz9, lz1, lz2, lz3]
            refine wpAnyH_ready (rs := [2, 5, 8]) (by kernel_rfl) (by simp) ?_
            refine AllReadyH.cons rfl (fun K hK => ?_) (AllReadyH.cons rfl (fun K hK => ?_) (AllReadyH.cons rfl (fun K hK => ?_) AllReadyH.nil))
            · skip
              go_simp
              clear hHeld
              refine hK.out _ _ trivial (fun hHeld => ?_)
              clear hK K
              try simp only [Act.put, List.setIfInBounds_toArray, List.set_cons_zero, List.set_cons_succ, List.getElem_toArray, List.getElem_cons_zero, List.getElem_cons_succ]
              refine wpAnyH_take (i := 9) (v := ?_) rfl (by kernel_rfl) (by kernel_rfl) (by kernel_rfl) (fun _ _ _ h => h) (Or.inl ⟨by rfl, ?_⟩) (by assumption) ?_
              rotate_left
              · intro w hSw
                try dsimp only at hSw
                go_simp
                try with_reducible rfl
              simp only [Act.put, lz7, lz8, lz9, lz1, lz2, lz3]
              refine wpAnyH_ready (rs := [5, 8]) (by kernel_rfl) (by simp) ?_
              refine AllReadyH.cons rfl (fun K hK => ?_) (AllReadyH.cons rfl (fun K hK => ?_) AllReadyH.nil)
              · skip
                go_simp
                clear hHeld
                refine hK.out _ _ trivial (fun hHeld => ?_)
                clear hK K
                try simp only [Act.put, List.setIfInBounds_toArray, List.set_cons_zero, List.set_cons_succ, List.getElem_toArray, List.getElem_cons_zero, List.getElem_cons_succ]
                refine wpAnyH_take (i := 10) (v := ?_) rfl (by kernel_rfl) (by kernel_rfl) (by kernel_rfl) (fun _ _ _ h => h) (Or.inl ⟨by rfl, ?_⟩) (by assumption) ?_
                rotate_left
                · intro w hSw
                  try dsimp only at hSw
                  go_simp
                  try with_reducible rfl
                simp only [Act.put, lz7, lz8, lz9, lz1, lz2, lz3]
                refine wpAnyH_ready (rs := [8]) (by kernel_rfl) (by simp) ?_
                refine AllReadyH.cons rfl (fun K hK => ?_) AllReadyH.nil
                · skip
                  go_simp
                  clear hHeld
                  refine hK.out _ _ trivial (fun hHeld => ?_)
                  clear hK K
                  try simp only [Act.put, List.setIfInBounds_toArray, List.set_cons_zero, List.set_cons_succ, List.getElem_toArray, List.getElem_cons_zero, List.getElem_cons_succ]
                  refine wpAnyH_take (i := 11) (v := ?_) rfl (by kernel_rfl) (by kernel_rfl) (by kernel_rfl) (fun _ _ _ h => h) (Or.inl ⟨by rfl, ?_⟩) (by assumption) ?_
                  rotate_left
                  · intro w hSw
                    try dsimp only at hSw
                    go_simp
                    try with_reducible rfl
                  simp only [Act.put, lz7, lz8, lz9, lz1, lz2, lz3]
                  refine wpAnyH_done (by kernel_rfl) ?_ _
                  clear hHeld
                  have hm : MadeF w5 n w5.heap.size (w5.heap.size + 1) (w5.heap.size + 1 + 1) (((w5.alloc ZZ).alloc ZZ).alloc ZZ).drew := made_leaf hmz w5 0 1 2 (by decide) (by decide) (by decide) (by decide) (by decide) (by decide)
                  obtain ⟨Y, hY⟩ : ∃ Y, (((w5.alloc ZZ).alloc ZZ).alloc ZZ).drew = Y := ⟨_, rfl⟩
                  rw [hY] at hm ⊢
                  clear hY
                  generalize w5.heap.size + 1 + 1 = b2 at hm ⊢
                  generalize w5.heap.size + 1 = b1 at hm ⊢
                  generalize w5.heap.size = b0 at hm ⊢
                  exact hgoal _ _ _ Y hm
              · skip
                go_simp
                clear hHeld
                refine hK.out _ _ trivial (fun hHeld => ?_)
                clear hK K
                try simp only [Act.put, List.setIfInBounds_toArray, List.set_cons_zero, List.set_cons_succ, List.getElem_toArray, List.getElem_cons_zero, List.getElem_cons_succ]
                refine wpAnyH_ready (rs := [5]) (by kernel_rfl) (by simp) ?_
                refine AllReadyH.cons rfl (fun K hK => ?_) AllReadyH.nil
                · skip
                  go_simp
                  clear hHeld
                  refine hK.out _ _ trivial (fun hHeld => ?_)
                  clear hK K
                  try simp only [Act.put, List.setIfInBounds_toArray, List.set_cons_zero, List.set_cons_succ, List.getElem_toArray, List.getElem_cons_zero, List.getElem_cons_succ]
                  refine wpAnyH_take (i := 10) (v := ?_) rfl (by kernel_rfl) (by kernel_rfl) (by kernel_rfl) (fun _ _ _ h => h) (Or.inl ⟨by rfl, ?_⟩) (by assumption) ?_
                  rotate_left
                  · intro w hSw
                    try dsimp only at hSw
                    go_simp
                    try with_reducible rfl
                  simp only [Act.put, lz7, lz8, lz9, lz1, lz2, lz3]
                  refine wpAnyH_take (i := 11) (v := ?_) rfl (by kernel_rfl) (by kernel_rfl) (by kernel_rfl) (fun _ _ _ h => h) (Or.inl ⟨by rfl, ?_⟩) (by assumption) ?_
                  rotate_left
                  · intro w hSw
                    try dsimp only at hSw
                    go_simp
                    try with_reducible rfl
                  simp only [Act.put, lz7, lz8, lz9, lz1, lz2, lz3]
                  refine wpAnyH_done (by kernel_rfl) ?_ _
                  clear hHeld
                  have hm : MadeF w5 n w5.heap.size (w5.heap.size + 1 + 1) (w5.heap.size + 1) (((w5.alloc ZZ).alloc ZZ).alloc ZZ).drew := made_leaf hmz w5 0 2 1 (by decide) (by decide) (by decide) (by decide) (by decide) (by decide)
                  obtain ⟨Y, hY⟩ : ∃ Y, (((w5.alloc ZZ).alloc ZZ).alloc ZZ).drew = Y := ⟨_, rfl⟩
                  rw [hY] at hm ⊢
                  clear hY
                  generalize w5.heap.size + 1 + 1 = b2 at hm ⊢
                  generalize w5.heap.size + 1 = b1 at hm ⊢
                  generalize w5.heap.size = b0 at hm ⊢
                  exact hgoal _ _ _ Y hm
            · skip
              go_simp
              clear hHeld
              refine hK.out _ _ trivial (fun hHeld => ?_)
              clear hK K
              try simp only [Act.put, List.setIfInBounds_toArray, List.set_cons_zero, List.set_cons_succ, List.getElem_toArray, List.getElem_cons_zero, List.getElem_cons_succ]
              refine wpAnyH_ready (rs := [2, 8]) (by kernel_rfl) (by simp) ?_
              refine AllReadyH.cons rfl (fun K hK => ?_) (AllReadyH.cons rfl (fun K hK => ?_) AllReadyH.nil)
              · skip
                go_simp
                clear hHeld
                refine hK.out _ _ trivial (fun hHeld => ?_)
                clear hK K
                try simp only [Act.put, List.setIfInBounds_toArray, List.set_cons_zero, List.set_cons_succ, List.getElem_toArray, List.getElem_cons_zero, List.getElem_cons_succ]
                refine wpAnyH_take (i := 9) (v := ?_) rfl (by kernel_rfl) (by kernel_rfl) (by kernel_rfl) (fun _ _ _ h => h) (Or.inl ⟨by rfl, ?_⟩) (by assumption) ?_
                rotate_left
                · intro w hSw
                  try dsimp only at hSw
                  go_simp
                  try with_reducible rfl
                simp only [Act.put, lz7, lz8, lz9, lz1, lz2, lz3]
                refine wpAnyH_take (i := 10) (v := ?_) rfl (by kernel_rfl) (by kernel_rfl) (by kernel_rfl) (fun _ _ _ h => h) (Or.inl ⟨by rfl, ?_⟩) (by assumption) ?_
                rotate_left
                · intro w hSw
                  try dsimp only at hSw
                  go_simp
                  try with_reducible rfl
                simp only [Act.put, lz7, lz8, lz9, lz1, lz2, lz3]
                refine wpAnyH_ready (rs := [8]) (by kernel_rfl) (by simp) ?_
                refine AllReadyH.cons rfl (fun K hK => ?_) AllReadyH.nil
                · skip
                  go_simp
                  clear hHeld
                  refine hK.out _ _ trivial (fun hHeld => ?_)
                  clear hK K
                  try simp only [Act.put, List.setIfInBounds_toArray, List.set_cons_zero, List.set_cons_succ, List.getElem_toArray, List.getElem_cons_zero, List.getElem_cons_succ]
                  refine wpAnyH_take (i := 11) (v := ?_) rfl (by kernel_rfl) (by kernel_rfl) (by kernel_rfl) (fun _ _ _ h => h) (Or.inl ⟨by rfl, ?_⟩) (by assumption) ?_
                  rotate_left
                  · intro w hSw
                    try dsimp only at hSw
                    go_simp
                    try with_reducible rfl
                  simp only [Act.put, lz7, lz8, lz9, lz1, lz2, lz3]
                  refine wpAnyH_done (by kernel_rfl) ?_ _
                  clear hHeld
                  have hm : MadeF w5 n (w5.heap.size + 1) w5.heap.size (w5.heap.size + 1 + 1) (((w5.alloc ZZ).alloc ZZ).alloc ZZ).drew := made_leaf hmz w5 1 0 2 (by decide) (by decide) (by decide) (by decide) (by decide) (by decide)
                  obtain ⟨Y, hY⟩ : ∃ Y, (((w5.alloc ZZ).alloc ZZ).alloc ZZ).drew = Y := ⟨_, rfl⟩
                  rw [hY] at hm ⊢
                  clear hY
                  generalize w5.heap.size + 1 + 1 = b2 at hm ⊢
                  generalize w5.heap.size + 1 = b1 at hm ⊢
                  generalize w5.heap.size = b0 at hm ⊢
                  exact hgoal _ _ _ Y hm
              · skip
                go_simp
                clear hHeld
                refine hK.out _ _ trivial (fun hHeld => ?_)
                clear hK K
                try simp only [Act.put, List.setIfInBounds_toArray, List.set_cons_zero, List.set_cons_succ, List.getElem_toArray, List.getElem_cons_zero, List.getElem_cons_succ]
                refine wpAnyH_ready (rs := [2]) (by kernel_rfl) (by simp) ?_
                refine AllReadyH.cons rfl (fun K hK => ?_) AllReadyH.nil
                · skip
                  go_simp
                  clear hHeld
                  refine hK.out _ _ trivial (fun hHeld => ?_)
                  clear hK K
                  try simp only [Act.put, List.setIfInBounds_toArray, List.set_cons_zero, List.set_cons_succ, List.getElem_toArray, List.getElem_cons_zero, List.getElem_cons_succ]
                  refine wpAnyH_take (i := 9) (v := ?_) rfl (by kernel_rfl) (by kernel_rfl) (by kernel_rfl) (fun _ _ _ h => h) (Or.inl ⟨by rfl, ?_⟩) (by assumption) ?_
                  rotate_left
                  · intro w hSw
                    try dsimp only at hSw
                    go_simp
                    try with_reducible rfl
                  simp only [Act.put, lz7, lz8, lz9, lz1, lz2, lz3]
                  refine wpAnyH_take (i := 10) (v := ?_) rfl (by kernel_rfl) (by kernel_rfl) (by kernel_rfl) (fun _ _ _ h => h) (Or.inl ⟨by rfl, ?_⟩) (by assumption) ?_
                  rotate_left
                  · intro w hSw
                    try dsimp only at hSw
                    go_simp
                    try with_reducible rfl
                  simp only [Act.put, lz7, lz8, lz9, lz1, lz2, lz3]
                  refine wpAnyH_take (i := 11) (v := ?_) rfl (by kernel_rfl) (by kernel_rfl) (by kernel_rfl) (fun _ _ _ h => h) (Or.inl ⟨by rfl, ?_⟩) (by assumption) ?_
                  rotate_left
                  · intro w hSw
                    try dsimp only at hSw
                    go_simp
                    try with_reducible rfl
                  simp only [Act.put, lz7, lz8, lz9, lz1, lz2, lz3]
                  refine wpAnyH_done (by kernel_rfl) ?_ _
                  clear hHeld
                  have hm : MadeF w5 n (w5.heap.size + 1 + 1) w5.heap.size (w5.heap.size + 1) (((w5.alloc ZZ).alloc ZZ).alloc ZZ).drew := made_leaf hmz w5 2 0 1 (by decide) (by decide) (by decide) (by decide) (by decide) (by decide)
                  obtain ⟨Y, hY⟩ : ∃ Y, (((w5.alloc ZZ).alloc ZZ).alloc ZZ).drew = Y := ⟨_, rfl⟩
                  rw [hY] at hm ⊢
                  clear hY
                  generalize w5.heap.size + 1 + 1 = b2 at hm ⊢
                  generalize w5.heap.size + 1 = b1 at hm ⊢
                  generalize w5.heap.size = b0 at hm ⊢
                  exact hgoal _ _ _ Y hm
            · skip
              go_simp
              clear hHeld
              refine hK.out _ _ trivial (fun hHeld => ?_)
              clear hK K
              try simp only [Act.put, List.setIfInBounds_toArray, List.set_cons_zero, List.set_cons_succ, List.getElem_toArray, List.getElem_cons_zero, List.getElem_cons_succ]
              refine wpAnyH_ready (rs := [2, 5]) (by kernel_rfl) (by simp) ?_
              refine AllReadyH.cons rfl (fun K hK => ?_) (AllReadyH.cons rfl (fun K hK => ?_) AllReadyH.nil)
              · skip
                go_simp
                clear hHeld
                refine hK.out _ _ trivial (fun hHeld => ?_)
                clear hK K
                try simp only [Act.put, List.setIfInBounds_toArray, List.set_cons_zero, List.set_cons_succ, List.getElem_toArray, List.getElem_cons_zero, List.getElem_cons_succ]
                refine wpAnyH_take (i := 9) (v := ?_) rfl (by kernel_rfl) (by kernel_rfl) (by kernel_rfl) (fun _ _ _ h => h) (Or.inl ⟨by rfl, ?_⟩) (by assumption) ?_
                rotate_left
                · intro w hSw
                  try dsimp only at hSw
                  go_simp
                  try with_reducible rfl
                simp only [Act.put, lz7, lz8, lz9, lz1, lz2, lz3]
                refine wpAnyH_ready (rs := [5]) (by kernel_rfl) (by simp) ?_
                refine AllReadyH.cons rfl (fun K hK => ?_) AllReadyH.nil
                · skip
                  go_simp
                  clear hHeld
                  refine hK.out _ _ trivial (fun hHeld => ?_)
                  clear hK K
                  try simp only [Act.put, List.setIfInBounds_toArray, List.set_cons_zero, List.set_cons_succ, List.getElem_toArray, List.getElem_cons_zero, List.getElem_cons_succ]
                  refine wpAnyH_take (i := 10) (v := ?_) rfl (by kernel_rfl) (by kernel_rfl) (by kernel_rfl) (fun _ _ _ h => h) (Or.inl ⟨by rfl, ?_⟩) (by assumption) ?_
                  rotate_left
                  · intro w hSw
                    try dsimp only at hSw
                    go_simp
                    try with_reducible rfl
                  simp only [Act.put, lz7, lz8, lz9, lz1, lz2, lz3]
                  refine wpAnyH_take (i := 11) (v := ?_) rfl (by kernel_rfl) (by kernel_rfl) (by kernel_rfl) (fun _ _ _ h => h) (Or.inl ⟨by rfl, ?_⟩) (by assumption) ?_
                  rotate_left
                  · intro w hSw
                    try dsimp only at hSw
                    go_simp
                    try with_reducible rfl
                  simp only [Act.put, lz7, lz8, lz9, lz1, lz2, lz3]
                  refine wpAnyH_done (by kernel_rfl) ?_ _
                  clear hHeld
                  have hm : MadeF w5 n (w5.heap.size + 1) (w5.heap.size + 1 + 1) w5.heap.size (((w5.alloc ZZ).alloc ZZ).alloc ZZ).drew := made_leaf hmz w5 1 2 0 (by decide) (by decide) (by decide) (by decide) (by decide) (by decide)
                  obtain ⟨Y, hY⟩ : ∃ Y, (((w5.alloc ZZ).alloc ZZ).alloc ZZ).drew = Y := ⟨_, rfl⟩
                  rw [hY] at hm ⊢
                  clear hY
                  generalize w5.heap.size + 1 + 1 = b2 at hm ⊢
                  generalize w5.heap.size + 1 = b1 at hm ⊢
                  generalize w5.heap.size = b0 at hm ⊢
                  exact hgoal _ _ _ Y hm
              · skip
                go_simp
                clear hHeld
                refine hK.out _ _ trivial (fun hHeld => ?_)
                clear hK K
                try simp only [Act.put, List.setIfInBounds_toArray, List.set_cons_zero, List.set_cons_succ, List.getElem_toArray, List.getElem_cons_zero, List.getElem_cons_succ]
                refine wpAnyH_ready (rs := [2]) (by kernel_rfl) (by simp) ?_
                refine AllReadyH.cons rfl (fun K hK => ?_) AllReadyH.nil
                · skip
                  go_simp
                  clear hHeld
                  refine hK.out _ _ trivial (fun hHeld => ?_)
                  clear hK K
                  try simp only [Act.put, List.setIfInBounds_toArray, List.set_cons_zero, List.set_cons_succ, List.getElem_toArray, List.getElem_cons_zero, List.getElem_cons_succ]
                  refine wpAnyH_take (i := 9) (v := ?_) rfl (by kernel_rfl) (by kernel_rfl) (by kernel_rfl) (fun _ _ _ h => h) (Or.inl ⟨by rfl, ?_⟩) (by assumption) ?_
                  rotate_left
                  · intro w hSw
                    try dsimp only at hSw
                    go_simp
                    try with_reducible rfl
                  simp only [Act.put, lz7, lz8, lz9, lz1, lz2, lz3]
                  refine wpAnyH_take (i := 10) (v := ?_) rfl (by kernel_rfl) (by kernel_rfl) (by kernel_rfl) (fun _ _ _ h => h) (Or.inl ⟨by rfl, ?_⟩) (by assumption) ?_
                  rotate_left
                  · intro w hSw
                    try dsimp only at hSw
                    go_simp
                    try with_reducible rfl
                  simp only [Act.put, lz7, lz8, lz9, lz1, lz2, lz3]
                  refine wpAnyH_take (i := 11) (v := ?_) rfl (by kernel_rfl) (by kernel_rfl) (by kernel_rfl) (fun _ _ _ h => h) (Or.inl ⟨by rfl, ?_⟩) (by assumption) ?_
                  rotate_left
                  · intro w hSw
                    try dsimp only at hSw
                    go_simp
                    try with_reducible rfl
                  simp only [Act.put, lz7, lz8, lz9, lz1, lz2, lz3]
                  refine wpAnyH_done (by kernel_rfl) ?_ _
                  clear hHeld
                  have hm : MadeF w5 n (w5.heap.size + 1 + 1) (w5.heap.size + 1) w5.heap.size (((w5.alloc ZZ).alloc ZZ).alloc ZZ).drew := made_leaf hmz w5 2 1 0 (by decide) (by decide) (by decide) (by decide) (by decide) (by decide)
                  obtain ⟨Y, hY⟩ : ∃ Y, (((w5.alloc ZZ).alloc ZZ).alloc ZZ).drew = Y := ⟨_, rfl⟩
                  rw [hY] at hm ⊢
                  clear hY
                  generalize w5.heap.size + 1 + 1 = b2 at hm ⊢
                  generalize w5.heap.size + 1 = b1 at hm ⊢
                  generalize w5.heap.size = b0 at hm ⊢
                  exact hgoal _ _ _ Y hm
          case p =>
            rintro k1 k2 k3 Y ⟨n12, n13, n23, ZO, ZH, ZT, hV⟩
            replace XT := XT.below hV
            replace hB := hB.trans (hV.mono hB.size)
            have zz10 := hV.size
            clear hV hmk hmz
            clear ZZ
            have hcell := ZO.cell (j := pw) hpn
            rw [Nat.zero_add] at hcell
            have hc1 := hcell.1
            have hc2 := hcell.2
            clear hcell
            have HT1 := hide ((Turns.refl k1 Y).setCell pw (.int .i64 5))
            have hz := ZO.set (k := pw) (x := 5) (by rw [List.length_replicate]; exact hpn) (by decide)
            rw [Nat.zero_add] at hz
            have HZO := hide (show Intz w5.heap.size (Y.setCell ⟨k1, pw, none⟩ (.int .i64 5)) (.slice (some ⟨k1, 0, none⟩) n n) (oneL n pw) from hz)
            have HZH := hide (ZH.turns HT1.out (Ne.symm n12))
            have HZT := hide (ZT.turns HT1.out (Ne.symm n13))
            have hk1 : w5.heap.size ≤ k1 := by
              obtain ⟨b, o, e, h1, _⟩ := ZO.row hn0
              simp only [Option.some.injEq, Addr.mk.injEq] at e
              omega
            have hk2 : w5.heap.size ≤ k2 := by
              obtain ⟨b, o, e, h1, _⟩ := ZH.row hn0
              simp only [Option.some.injEq, Addr.mk.injEq] at e
              omega
            have hk3 : w5.heap.size ≤ k3 := by
              obtain ⟨b, o, e, h1, _⟩ := ZT.row hn0
              simp only [Option.some.injEq, Addr.mk.injEq] at e
              omega
            have HBY := hide (HT1.out.below.mono hk1)
            have HB0 := hide hB
            have HXT := hide XT
            clear hz ZO ZH ZT hB XT
            generalize (List.replicate n (0 : Int))[pw]?.getD 0 = old at *
            go_wp2
            go_loopw [15] (fun iv wr => ∃ i : Nat, i ≤ n ∧ iv = .int .i64 i ∧ Hid (Intz w5.heap.size wr (.slice (some ⟨k1, 0, none⟩) n n) (oneL n pw)) ∧ Hid (Intz w5.heap.size wr (.slice (some ⟨k2, 0, none⟩) n n) (halfL (zs.take i) ++ List.replicate (n - i) 0)) ∧ Hid (Intz w5.heap.size wr (.slice (some ⟨k3, 0, none⟩) n n) (twiceL (zs.take i) ++ List.replicate (n - i) 0)) ∧ Hid (Below w5.heap.size Y wr)) (fun iv _ => n - (intOf iv).toNat)
            case atStart => exact ⟨0, Nat.zero_le _, rfl, HZO.out, HZH.out, HZT.out, HBY.out⟩
            case round =>
              clear HZO HZH HZT HBY HT1 hc1 hc2
              obtain ⟨i, hi, rfl, HZO, HZH, HZT, HBY⟩ := hrel
              have HBX : Hid (Below Y.heap.size Y wr → True) := fun _ => trivial
              by_cases hik : i < n
              · have hki : (i : Int) < (n : Int) := by omega
                have XTW := HXT.out.below_lo (show Below w5.heap.size Y wr from HBY.out) HXB.out
                obtain ⟨bt, ot, rfl, _, _⟩ := XTW.row hn0
                have hx1 := (XTW.cell (j := i) hik).1
                have hxr := HIN.out i hik
                have HSH := hide (half_next (zs := zs) (n := n) (i := i) HN.out hik)
                have HST := hide (twice_next (zs := zs) (n := n) (i := i) HN.out hik)
                have HAT := hide (half_at (zs := zs) (n := n) (i := i) HN.out hik)
                obtain ⟨x, hx⟩ : ∃ x, zs[i]?.getD 0 = x := ⟨_, rfl⟩
                rw [hx] at hx1 hxr HSH HST HAT
                have hq : x.tdiv 2 = x / 2 := Int.tdiv_eq_ediv_of_nonneg hxr.1
                obtain ⟨v, hv⟩ : ∃ v, x / 2 = v := ⟨_, rfl⟩
                rw [hv] at hq HSH HST HAT
                have hvb : 0 ≤ v ∧ v ≤ 8388607 := by omega
                have hwq : IntKind.i64.wrap (x.tdiv 2) = v := by rw [hq, IntKind.wrap_i64]; omega
                have hwv : IntKind.i64.wrap v = v := by rw [IntKind.wrap_i64]; omega
                have hwv2 : IntKind.i64.wrap (2 * v) = 2 * v := by rw [IntKind.wrap_i64]; omega
                have hw1 : IntKind.i64.wrap ((i : Int) + 1) = (i : Int) + 1 := by rw [IntKind.wrap_i64]; omega
                have hlen : (halfL (zs.take i) ++ List.replicate (n - i) 0).length = n := by rw [List.length_append, halfL_len, List.length_take, List.length_replicate]; have := HN.out; omega
                have hlen2 : (twiceL (zs.take i) ++ List.replicate (n - i) 0).length = n := by rw [List.length_append, twiceL_len, List.length_take, List.length_replicate]; have := HN.out; omega
                have hcell := HZH.out.cell (j := i) hik
                rw [Nat.zero_add] at hcell
                have hc1 := hcell.1
                have hc2 := hcell.2
                clear hcell hx hv
                have HT1 := hide ((Turns.refl k2 wr).setCell i (.int .i64 v))
                have hz := HZH.out.set (k := i) (x := v) (by omega) (by omega)
                rw [Nat.zero_add, HSH.out] at hz
                have HZH2 := hide hz
                have HZO2 := hide (HZO.out.turns HT1.out n12)
                have hz3 := HZT.out.turns HT1.out (Ne.symm n23)
                have hcell := hz.cell (j := i) hik
                rw [Nat.zero_add, HAT.out] at hcell
                have hc3 := hcell.1
                clear hcell
                have hcell := hz3.cell (j := i) hik
                rw [Nat.zero_add] at hcell
                have hc4 := hcell.1
                have hc5 := hcell.2
                clear hcell
                have HT2 := hide ((Turns.refl k3 (wr.setCell ⟨k2, i, none⟩ (.int .i64 v))).setCell i (.int .i64 (2 * v)))
                have hz4 := hz3.set (k := i) (x := 2 * v) (by omega) (by omega)
                rw [Nat.zero_add, HST.out] at hz4
                have HZT3 := hide hz4
                have HZO3 := hide (HZO2.out.turns HT2.out n13)
                have HZH3 := hide (HZH2.out.turns HT2.out n23)
                have HBY3 := hide ((HBY.out.trans (HT1.out.below.mono hk2)).trans (HT2.out.below.mono hk3))
                generalize (halfL (zs.take i) ++ List.replicate (n - i) 0)[i]?.getD 0 = oldh at hc1
                generalize (twiceL (zs.take i) ++ List.replicate (n - i) 0)[i]?.getD 0 = oldt at hc4
                clear HAT hz hz3 hz4 HT1 HT2 HZH2 HZO2 HSH HST HZO HZH HZT HBY HBX XTW hlen hlen2 hq
                go_wp2
                exact ⟨⟨i + 1, by omega, by go_num, HZO3.out, HZH3.out, HZT3.out, HBY3.out⟩, by simp [intOf]; omega⟩
              · obtain rfl : n = i := by omega
                have hzo := HZO.out
                have hzh := HZH.out
                have hzt := HZT.out
                have hlz := HN.out
                rw [← hlz, List.take_length, hlz, Nat.sub_self, List.replicate_zero, List.append_nil] at hzh hzt
                have hB := HB0.out.trans (HBY.out.mono (by have := HB0.out.size; omega))
                clear HZO HZH HZT HBY HBX HXT
                go_wp2_with fail
                have hk := (tsmean_any hzo).mono (fun _ _ h => h.2 HC1.out)
                rw [HQ1.out] at hk
                refine (hk).mono ?_
                rintro e w6 ⟨g4, a4, c4, x4, e4, t4, y4, rfl, F4, P4, I4, hb⟩
                replace I4 : Is g4 x4 y4 (Rat.divInt ((pw : Int) + 1) 1) (1) := I4.mono (by omega)
                replace hzo := hzo.below hb
                replace hzh := hzh.below hb
                replace hzt := hzt.below hb
                replace hB := hB.trans (hb.mono hB.size)
                have zz6 := hb.size
                have zh6 := hB.size
                clear hb
                clear hk
                clear hzo
                have hwp : IntKind.i64.wrap ((pw : Int) + 1) = (pw : Int) + 1 := by rw [IntKind.wrap_i64]; omega
                have hs0 := Nat.le_refl w6.heap.size
                have hq := below_new w6 (.cells #[.bool g4, .slice a4 x4.length c4, .slice e4 y4.length t4] 31)
                replace hzh := hzh.below hq
                replace hzt := hzt.below hq
                replace F4 := F4.below hq
                have E4 := Box.put (w := w6) (k := (w6.heap.size)) (.cells #[.bool g4, .slice a4 x4.length c4, .slice e4 y4.length t4] 31) rfl
                replace hs0 := Nat.le_trans hs0 hq.size
                replace hB := hB.trans (hq.mono hB.size)
                clear hq
                go_wp2_with fail
                obtain ⟨u7, hname⟩ := nm hB
                rw [hname] at hs0 hB hzh hzt F4 E4 ⊢
                have zh7 := hB.size
                have zs7 := hs0
                clear hname hs0
                replace hzh := hzh.drew
                replace hzt := hzt.drew
                replace F4 := F4.drew
                have qE4 := E4.lt
                replace E4 := E4.drew
                have hr := Below.refl u7.drew.heap.size u7.drew
                have hkeep : ∀ V : World, Below u7.drew.heap.size u7.drew V → V.cell? ⟨w6.heap.size, 0, none⟩ = some (.bool g4) ∧ V.cell? ⟨w6.heap.size, 1, none⟩ = some (.slice a4 x4.length c4) ∧ V.cell? ⟨w6.heap.size, 2, none⟩ = some (.slice e4 y4.length t4) := fun V hV => ⟨(E4.below hV).three.1, (E4.below hV).three.2.1, (E4.below hV).three.2.2.1⟩
                refine wp_region_held_drew (S := fun V : World => V.cell? ⟨w6.heap.size, 0, none⟩ = some (.bool g4) ∧ V.cell? ⟨w6.heap.size, 1, none⟩ = some (.slice a4 x4.length c4) ∧ V.cell? ⟨w6.heap.size, 2, none⟩ = some (.slice e4 y4.length t4)) (by kernel_rfl) (hkeep _ hr) (fun hHeld => ?_)
                refine wpAnyH_take (i := 0) (v := ?_) rfl (by kernel_rfl) (by kernel_rfl) (by kernel_rfl) (fun _ _ _ h => h) (Or.inl ⟨by rfl, ?_⟩) (by assumption) ?_
                rotate_left
                · intro w hSw
                  try dsimp only at hSw
                  go_simp
                  try with_reducible rfl
                simp only [Act.put, lz7, lz8, lz9, lz1, lz2]
                refine wpAnyH_take (i := 1) (v := ?_) rfl (by kernel_rfl) (by kernel_rfl) (by kernel_rfl) (fun _ _ _ h => h) (Or.inl ⟨by rfl, ?_⟩) (by assumption) ?_
                rotate_left
                · intro w hSw
                  try dsimp only at hSw
                  go_simp
                  try with_reducible rfl
                simp only [Act.put, lz7, lz8, lz9, lz1, lz2, lz3]
                refine wpAnyH_take (i := 2) (v := ?_) rfl (by kernel_rfl) (by kernel_rfl) (by kernel_rfl) (fun _ _ _ h => h) (Or.inl ⟨by rfl, ?_⟩) (by assumption) ?_
                rotate_left
                · intro w hSw
                  try dsimp only at hSw
                  go_simp
                  try with_reducible rfl
                simp only [Act.put, lz7, lz8, lz9, lz1, lz2, lz3]
                refine wpAnyH_take (i := 3) (v := ?_) rfl (by kernel_rfl) (by kernel_rfl) (by kernel_rfl) (fun _ _ _ h => h) (Or.inl ⟨by rfl, ?_⟩) (by assumption) ?_
                rotate_left
                · intro w hSw
                  try dsimp only at hSw
                  go_simp
                  try with_reducible rfl
                simp only [Act.put, lz7, lz8, lz9, lz1, lz2, lz3]
                refine wpAnyH_take (i := 4) (v := ?_) rfl (by kernel_rfl) (by kernel_rfl) (by kernel_rfl) (fun _ _ _ h => h) (Or.inl ⟨by rfl, ?_⟩) (by assumption) ?_
                rotate_left
                · intro w hSw
                  try dsimp only at hSw
                  go_simp
                  try with_reducible rfl
                simp only [Act.put, lz7, lz8, lz9, lz1, lz2, lz3]
                refine wpAnyH_take (i := 5) (v := ?_) rfl (by kernel_rfl) (by kernel_rfl) (by kernel_rfl) (fun _ _ _ h => h) (Or.inl ⟨by rfl, ?_⟩) (by assumption) ?_
                rotate_left
                · intro w hSw
                  try dsimp only at hSw
                  go_simp
                  try with_reducible rfl
                simp only [Act.put, lz7, lz8, lz9, lz1, lz2, lz3]
                refine wpAnyH_ready (rs := [6]) (by kernel_rfl) (by simp) ?_
                refine AllReadyH.cons rfl (fun K hK => ?_) AllReadyH.nil
                go_simp
                go_at_call 8
                refine (lt_part_any ((pw : Int) + 1) 1 (by omega) (by decide) (by decide) _).mono ?_
                rintro e w8 ⟨g5, a5, c5, x5, e5, t5, y5, rfl, F5, P5, I5, hb⟩
                replace I5 : Is g5 x5 y5 (Rat.divInt ((pw : Int) + 1) 1) (1) := I5.mono (by omega)
                replace hzh := hzh.below hb
                replace hzt := hzt.below hb
                replace F4 := F4.below hb
                replace E4 := E4.below hb
                replace hr := hr.trans (hb.mono hr.size)
                have zw8 := hb.size
                clear hb
                dsimp only
                clear hHeld
                refine hK.out _ _ (hkeep _ hr) (fun hHeld => ?_)
                clear hK K
                try simp only [Act.put, List.setIfInBounds_toArray, List.set_cons_zero, List.set_cons_succ, List.getElem_toArray, List.getElem_cons_zero, List.getElem_cons_succ]
                refine wpAnyH_ready (rs := [7]) (by kernel_rfl) (by simp) ?_
                refine AllReadyH.cons rfl (fun K hK => ?_) AllReadyH.nil
                go_simp
                go_at_call 10
                refine (samer_is F4 F5 I4 I5 (by decide)).mono ?_
                rintro e w9 ⟨rfl, hb⟩
                replace hzh := hzh.below hb
                replace hzt := hzt.below hb
                replace F4 := F4.below hb
                replace E4 := E4.below hb
                replace F5 := F5.below hb
                replace hr := hr.trans (hb.mono hr.size)
                have zw9 := hb.size
                clear hb
                dsimp only
                clear hHeld
                refine hK.out _ _ (hkeep _ hr) (fun hHeld => ?_)
                clear hK K
                try simp only [Act.put, List.setIfInBounds_toArray, List.set_cons_zero, List.set_cons_succ, List.getElem_toArray, List.getElem_cons_zero, List.getElem_cons_succ]
                refine wpAnyH_take (i := 8) (v := ?_) rfl (by kernel_rfl) (by kernel_rfl) (by kernel_rfl) (fun _ _ _ h => h) (Or.inl ⟨by rfl, ?_⟩) (by assumption) ?_
                rotate_left
                · intro w hSw
                  try dsimp only at hSw
                  go_simp
                  try with_reducible rfl
                simp only [Act.put, lz7, lz8, lz9, lz1, lz2, lz3]
                refine wpAnyH_take (i := 9) (v := ?_) rfl (by kernel_rfl) (by kernel_rfl) (by kernel_rfl) (fun _ _ _ h => h) (Or.inl ⟨by rfl, ?_⟩) (by assumption) ?_
                rotate_left
                · intro w hSw
                  try dsimp only at hSw
                  go_simp
                  try with_reducible rfl
                simp only [Act.put, lz7, lz8, lz9, lz1, lz2, lz3]
                refine wpAnyH_done (by kernel_rfl) ?_ _
                clear hHeld
                replace hB := hB.trans ((Below.trans (Below.drew (Below.refl u7.heap.size u7)) hr).mono hB.size)
                have zi_9 := hB.size
                clear hr hkeep
                clear F4 F5 E4 I4 I5
                go_wp2_with fail
                have hk := (tsmean_any hzt).mono (fun _ _ h => h.2 HCT.out)
                rw [HQT.out] at hk
                refine (hk).mono ?_
                rintro e w10 ⟨g41, a41, c41, x41, e41, t41, y41, rfl, F41, P41, I41, hb⟩
                replace I41 : Is g41 x41 y41 (Q2) (1) := I41.mono (by omega)
                replace hzh := hzh.below hb
                replace hzt := hzt.below hb
                replace hB := hB.trans (hb.mono hB.size)
                have zz10 := hb.size
                have zh10 := hB.size
                clear hb
                clear hk
                have hs0 := Nat.le_refl w10.heap.size
                have hq := below_new w10 (.cells #[.bool g41, .slice a41 x41.length c41, .slice e41 y41.length t41] 31)
                replace hzh := hzh.below hq
                replace hzt := hzt.below hq
                replace F41 := F41.below hq
                have E41 := Box.put (w := w10) (k := (w10.heap.size)) (.cells #[.bool g41, .slice a41 x41.length c41, .slice e41 y41.length t41] 31) rfl
                replace hs0 := Nat.le_trans hs0 hq.size
                replace hB := hB.trans (hq.mono hB.size)
                clear hq
                go_wp2_with fail
                obtain ⟨u11, hname⟩ := nm hB
                rw [hname] at hs0 hB hzh hzt F41 E41 ⊢
                have zh11 := hB.size
                have zs11 := hs0
                clear hname hs0
                have hk := (tsmean_any hzh).mono (fun _ _ h => h.2 HCH.out)
                rw [HQH.out] at hk
                refine (hk).mono ?_
                rintro e w12 ⟨g42, a42, c42, x42, e42, t42, y42, rfl, F42, P42, I42, hb⟩
                replace I42 : Is g42 x42 y42 (Q2) (1) := I42.mono (by omega)
                replace hzh := hzh.below hb
                replace hzt := hzt.below hb
                replace F41 := F41.below hb
                replace E41 := E41.below hb
                replace hB := hB.trans (hb.mono hB.size)
                have zz12 := hb.size
                have zh12 := hB.size
                clear hb
                clear hk
                obtain ⟨k0, k1, k2, f0, f1, f2⟩ := E41.three
                have qE41 := E41.lt
                have hs0 := Nat.le_refl w12.heap.size
                have hq := below_new w12 (.cells #[.bool g42, .slice a42 x42.length c42, .slice e42 y42.length t42] 31)
                replace hzh := hzh.below hq
                replace hzt := hzt.below hq
                replace F41 := F41.below hq
                replace E41 := E41.below hq
                replace F42 := F42.below hq
                have E42 := Box.put (w := w12) (k := (w12.heap.size)) (.cells #[.bool g42, .slice a42 x42.length c42, .slice e42 y42.length t42] 31) rfl
                replace hs0 := Nat.le_trans hs0 hq.size
                replace hB := hB.trans (hq.mono hB.size)
                clear hq
                go_wp2_with fail
                clear k0 k1 k2 f0 f1 f2
                obtain ⟨u13, hname⟩ := nm hB
                rw [hname] at hs0 hB hzh hzt F41 E41 F42 E42 ⊢
                have zh13 := hB.size
                have zs13 := hs0
                clear hname hs0
                refine (samer_is F41 F42 I41 I42 (by decide)).mono ?_
                rintro e w14 ⟨rfl, hb⟩
                replace hzh := hzh.below hb
                replace hzt := hzt.below hb
                replace F41 := F41.below hb
                replace E41 := E41.below hb
                replace F42 := F42.below hb
                replace E42 := E42.below hb
                replace hB := hB.trans (hb.mono hB.size)
                have zz14 := hb.size
                have zh14 := hB.size
                clear hb
                go_wp2
                go_ret
                exact ⟨rfl, hB⟩

set_option maxRecDepth 100000 in
set_option maxHeartbeats 4000000 in
theorem ltmean_none {lo : Nat} {a : Option Addr} {n c : Nat} {zs : List Int} {w : World} (XT : Intz lo w (.slice a n c) zs) (x : Int) (h : n ≤ 60) (h2 : chkT zs 60 = 0) (h3 : ¬ chkT (halfL zs) 65536 = 0) :
    Calls Tryz.prog 3 #[.slice a n c, .int .i64 x] w fun e w' => e = .returned (.bool true) ∧ Below w.heap.size w w' := by
  have HXW := hide XT.block
  have hd : decide (60 < (n : Int)) = false := decide_eq_false (by omega)
  have HC60 := hide h2
  have hm60 := chkT_iff.1 h2
  have hmm := may_more hm60
  have HC : Hid (chkT zs 65536 = 0) := chkT_yes hmm
  have hnl := XT.len.1
  have HN : Hid (zs.length = n) := hnl.symm
  have hn0 : 0 < n := by have := hmm.2.2.1; omega
  obtain ⟨hl1, hl2⟩ := mean_within hm60 (by omega)
  rw [← hnl] at hl1 hl2
  obtain ⟨Q, hQ⟩ : ∃ Q, Rat.divInt (wsum zs n) (totT zs) = Q := ⟨_, rfl⟩
  have HQ : Hid (Rat.divInt (wsum zs zs.length) (totT zs) = Q) := by rw [Hid, ← hnl]; exact hQ
  rw [hQ] at hl1 hl2
  obtain ⟨lv, hlv⟩ : ∃ lv, cmpR Q (Rat.divInt 1 1) = lv := ⟨_, rfl⟩
  obtain ⟨hv, hhv⟩ : ∃ hv, cmpR Q (Rat.divInt (n : Int) 1) = hv := ⟨_, rfl⟩
  rw [hlv] at hl1
  rw [hhv] at hl2
  have HLV := hide hlv
  have HHV := hide hhv
  have hlf : decide (lv < 0) = false := decide_eq_false (by omega)
  have hhf : decide (0 < hv) = false := decide_eq_false (by omega)
  have HIN : Hid (∀ i, i < n → 0 ≤ zs[i]?.getD 0 ∧ zs[i]?.getD 0 ≤ 16777215) := fun i hi => hmm.2.2.2.2.1 _ (getD_mem (by omega))
  have HC1A : Hid (∀ j, j < n → chkT (oneL n j) 65536 = 0) := fun j hj => chkT_yes (oneL_may hj h)
  have HQ1A : Hid (∀ j, j < n → Rat.divInt (wsum (oneL n j) (oneL n j).length) (totT (oneL n j)) = Rat.divInt ((j : Int) + 1) 1) := fun j hj => oneL_mean hj h
  have HCH := hide h3
  have HCT : Hid (¬ chkT (twiceL zs) 65536 = 0) := fun h => h3 (chkT_yes ((half_iff hmm.2.2.2.2.1).2 (chkT_iff.1 h)))
  clear hQ hlv hhv hm60 hmm hnl h2 h3
  have hB := Below.refl w.heap.size w
  go_enter Tryz.func3, Tryz.ntmps3
  go_wp2_with fail
  refine (lt_awake_any _).mono ?_
  rintro e w1 ⟨rfl, hb⟩
  replace XT := XT.below hb
  replace hB := hB.trans (hb.mono hB.size)
  have zz1 := hb.size
  have zh1 := hB.size
  clear hb
  go_wp2_with fail
  have hk := tscheck_any XT 60
  rw [HC60.out] at hk
  refine (hk).mono ?_
  rintro e w2 ⟨rfl, hb⟩
  replace XT := XT.below hb
  replace hB := hB.trans (hb.mono hB.size)
  have zz2 := hb.size
  have zh2 := hB.size
  clear hb
  clear hk
  go_wp2_with fail
  have hk := (tsmean_any XT).mono (fun _ _ h => h.2 HC.out)
  rw [HQ.out] at hk
  refine (hk).mono ?_
  rintro e w3 ⟨g1, a1, c1, x1, e1, t1, y1, rfl, F1, P1, I1, hb⟩
  replace I1 : Is g1 x1 y1 (Q) (1) := I1.mono (by omega)
  replace XT := XT.below hb
  replace hB := hB.trans (hb.mono hB.size)
  have zz3 := hb.size
  have zh3 := hB.size
  clear hb
  clear hk
  have hs0 := Nat.le_refl w3.heap.size
  have hq := below_new w3 (.cells #[.bool g1, .slice a1 x1.length c1, .slice e1 y1.length t1] 31)
  replace XT := XT.below hq
  replace F1 := F1.below hq
  have E1 := Box.put (w := w3) (k := (w3.heap.size)) (.cells #[.bool g1, .slice a1 x1.length c1, .slice e1 y1.length t1] 31) rfl
  replace hs0 := Nat.le_trans hs0 hq.size
  replace hB := hB.trans (hq.mono hB.size)
  clear hq
  go_wp2_with fail
  obtain ⟨u4, hname⟩ := nm hB
  rw [hname] at hs0 hB XT F1 E1 ⊢
  have zh4 := hB.size
  have zs4 := hs0
  clear hname hs0
  replace XT := XT.drew
  replace F1 := F1.drew
  have qE1 := E1.lt
  replace E1 := E1.drew
  refine wp_yields 4 [.is (.agg #[.bool g1, .slice a1 x1.length c1, .slice e1 y1.length t1]), (Yield.frac u4.heap.size (Rat.divInt 1 1) (1)), (.is (.tuple #[.int .i64 lv, .int .i64 0])), .is (.tuple #[.int .i64 lv, .int .i64 0])] (by kernel_rfl) (by kernel_rfl) (lt_cons ?_ (lt_cons ?_ (lt_cons ?_ (lt_cons ?_ lt_nil)))) ?_
  case refine_1 =>
    refine OpDoes.mk rfl ?_
    intro vs V hV hd K hK
    have d2 : vs 2 = .tuple #[.int .i64 lv, .int .i64 0] := hd 2 (by decide) (by kernel_rfl)
    simp only [laidIn, lz1, lz2, lz3, lz4, lz5, lz6, if_true, Act.put, lz7, lz8, lz9] at hK ⊢
    simp only [d2] at hK ⊢
    go_simp
    exact hK.out _ _ (Below.refl _ _) rfl (not_fresh rfl)
  case refine_2 =>
    refine OpDoes.mk rfl ?_
    intro vs V hV hd K hK
    have d0 : vs 0 = .agg #[.bool g1, .slice a1 x1.length c1, .slice e1 y1.length t1] := hd 0 (by decide) (by kernel_rfl)
    have hh := fun (P : Prop) => Yield.frac_elim P (show ((Yield.frac u4.heap.size (Rat.divInt 1 1) (1)) : Yield).At (vs 1) V from hd 1 (by decide) (by kernel_rfl))
    refine hh _ ?_
    intro g2 a2 c2 x2 e2 t2 y2 d1 F2 P2 I2
    clear hh
    simp only [laidIn, lz1, lz2, lz3, lz4, lz5, lz6, if_true, Act.put, lz7, lz8, lz9] at hK ⊢
    simp only [d0, d1] at hK ⊢
    go_simp
    go_at_call 7
    have hc := pcmp_ok g1 g2 (F1.below hV) F2 I1 I2 (by omega)
    rw [HLV.out] at hc
    refine (hc).mono ?_
    rintro e V' ⟨rfl, hb⟩
    exact hK.out _ _ hb rfl (not_fresh rfl)
  case refine_3 =>
    refine OpDoes.mk rfl ?_
    intro vs V hV hd K hK
    simp only [laidIn, lz1, lz2, lz3, lz4, lz5, lz6, if_true, Act.put, lz7, lz8, lz9] at hK ⊢
    go_simp
    go_at_call 8
    refine (lt_part_any 1 1 (by omega) (by decide) (by decide) _).mono ?_
    rintro e V' ⟨g2, a2, c2, x2, e2, t2, y2, rfl, F2, P2, I2, hb⟩
    replace I2 : Is g2 x2 y2 (Rat.divInt 1 1) (1) := I2.mono (by omega)
    exact hK.out _ _ hb ⟨_, _, _, _, _, _, _, rfl, F2.mono hV.size, P2, I2⟩ (not_fresh rfl)
  case refine_4 =>
    refine OpDoes.mk rfl ?_
    intro vs V hV hd K hK
    have hcc := (E1.below hV).three
    have k0 := hcc.1
    have k1 := hcc.2.1
    have k2 := hcc.2.2.1
    clear hcc
    simp only [laidIn, lz1, lz2, lz4, lz5, lz6, if_true, Act.put, lz7, lz8, lz9] at hK ⊢
    go_simp
    exact hK.out _ _ (Below.refl _ _) rfl (not_fresh rfl)
  case refine_5 =>
    intro vs Y1 hV hR hne fuel
    have d0 : vs 0 = .agg #[.bool g1, .slice a1 x1.length c1, .slice e1 y1.length t1] := hR 0 (by decide)
    have hh := fun (P : Prop) => Yield.frac_elim P (show ((Yield.frac u4.heap.size (Rat.divInt 1 1) (1)) : Yield).At (vs 1) Y1 from hR 1 (by decide))
    refine hh _ ?_
    intro g2 a2 c2 x2 e2 t2 y2 d1 F2 P2 I2
    clear hh
    have d2 : vs 2 = .tuple #[.int .i64 lv, .int .i64 0] := hR 2 (by decide)
    have d3 : vs 3 = .tuple #[.int .i64 lv, .int .i64 0] := hR 3 (by decide)
    replace XT := XT.below hV
    replace F1 := F1.below hV
    replace E1 := E1.below hV
    have hr := hV
    simp only [laidIn, lz4, lz5, lz6, if_true, Act.put, lz7, lz8, lz9]
    simp only [d0, d1, d2, d3]
    clear hR hne hV d0 d1 d2 d3
    clear vs
    show wpAny _ _ _ _ (fuel + 4) _ _ _
    apply mp_of
    case f =>
      intro hgoal
      refine wpAny_all (rs := [4, 5]) (by kernel_rfl) (by simp) (fun i hi => ?_)
      rcases (show i = 4 ∨ i = 5 by simpa using hi) with rfl | rfl
      · clear hi
        refine wpOp_step rfl (fun K hK => ?_)
        simp only [lz1, lz2, lz3]
        rw [if_pos (by rfl)]
        go_simp
        refine hK _ _ ?_
        clear hK
        refine wpAny_all (rs := [5, 6]) (by kernel_rfl) (by simp) (fun i hi => ?_)
        rcases (show i = 5 ∨ i = 6 by simpa using hi) with rfl | rfl
        · clear hi
          refine wpOp_step rfl (fun K hK => ?_)
          simp only [lz1, lz2, lz3]
          rw [if_pos (by rfl)]
          go_simp
          refine hK _ _ ?_
          clear hK
          refine wpAny_all (rs := [6]) (by kernel_rfl) (by simp) (fun i hi => ?_)
          obtain rfl : i = 6 := by simpa using hi
          clear hi
          refine wpOp_step rfl (fun K hK => ?_)
          simp only [lz1, lz2, lz3]
          rw [if_pos (by rfl)]
          go_simp
          refine hK _ _ ?_
          clear hK
          refine wpAny_all (rs := [7]) (by kernel_rfl) (by simp) (fun i hi => ?_)
          obtain rfl : i = 7 := by simpa using hi
          clear hi
          refine wpOp_step rfl (fun K hK => ?_)
          simp only [lz1, lz2, lz3]
          rw [if_pos (by rfl)]
          go_simp
          refine hK _ _ ?_
          clear hK
          refine wpAny_done (by kernel_rfl) ?_ _
          exact hgoal
        · clear hi
          refine wpOp_step rfl (fun K hK => ?_)
          simp only [lz1, lz2, lz3]
          rw [if_pos (by rfl)]
          go_simp
          refine hK _ _ ?_
          clear hK
          refine wpAny_all (rs := [5]) (by kernel_rfl) (by simp) (fun i hi => ?_)
          obtain rfl : i = 5 := by simpa using hi
          clear hi
          refine wpOp_step rfl (fun K hK => ?_)
          simp only [lz1, lz2, lz3]
          rw [if_pos (by rfl)]
          go_simp
          refine hK _ _ ?_
          clear hK
          refine wpAny_all (rs := [7]) (by kernel_rfl) (by simp) (fun i hi => ?_)
          obtain rfl : i = 7 := by simpa using hi
          clear hi
          refine wpOp_step rfl (fun K hK => ?_)
          simp only [lz1, lz2, lz3]
          rw [if_pos (by rfl)]
          go_simp
          refine hK _ _ ?_
          clear hK
          refine wpAny_done (by kernel_rfl) ?_ _
          exact hgoal
      · clear hi
        refine wpOp_step rfl (fun K hK => ?_)
        simp only [lz1, lz2, lz3]
        rw [if_pos (by rfl)]
        go_simp
        refine hK _ _ ?_
        clear hK
        refine wpAny_all (rs := [4]) (by kernel_rfl) (by simp) (fun i hi => ?_)
        obtain rfl : i = 4 := by simpa using hi
        clear hi
        refine wpOp_step rfl (fun K hK => ?_)
        simp only [lz1, lz2, lz3]
        rw [if_pos (by rfl)]
        go_simp
        refine hK _ _ ?_
        clear hK
        refine wpAny_all (rs := [6]) (by kernel_rfl) (by simp) (fun i hi => ?_)
        obtain rfl : i = 6 := by simpa using hi
        clear hi
        refine wpOp_step rfl (fun K hK => ?_)
        simp only [lz1, lz2, lz3]
        rw [if_pos (by rfl)]
        go_simp
        refine hK _ _ ?_
        clear hK
        refine wpAny_all (rs := [7]) (by kernel_rfl) (by simp) (fun i hi => ?_)
        obtain rfl : i = 7 := by simpa using hi
        clear hi
        refine wpOp_step rfl (fun K hK => ?_)
        simp only [lz1, lz2, lz3]
        rw [if_pos (by rfl)]
        go_simp
        refine hK _ _ ?_
        clear hK
        refine wpAny_done (by kernel_rfl) ?_ _
        exact hgoal
    case p =>
      replace hB := hB.trans ((Below.trans (Below.drew (Below.refl u4.heap.size u4)) hr).mono hB.size)
      have zz4_0 := hr.size
      have zi1 := hB.size
      clear hr
      clear F2 I2
      obtain ⟨k0, k1, k2, f0, f1, f2⟩ := E1.three
      go_wp2_with fail
      clear k0 k1 k2 f0 f1 f2
      replace XT := XT.drew
      replace F1 := F1.drew
      have qE1 := E1.lt
      replace E1 := E1.drew
      refine wp_yields 6 [.is (.agg #[.bool g1, .slice a1 x1.length c1, .slice e1 y1.length t1]), .is (.slice a n c), .is (.int .i64 (n : Int)), (Yield.frac Y1.heap.size (Rat.divInt (n : Int) 1) (1)), (.is (.tuple #[.int .i64 hv, .int .i64 0])), .is (.tuple #[.int .i64 hv, .int .i64 0])] (by kernel_rfl) (by kernel_rfl) (lt_cons ?_ (lt_cons ?_ (lt_cons ?_ (lt_cons ?_ (lt_cons ?_ (lt_cons ?_ lt_nil)))))) ?_
      case refine_1 =>
        refine OpDoes.mk rfl ?_
        intro vs V hV hd K hK
        have d4 : vs 4 = .tuple #[.int .i64 hv, .int .i64 0] := hd 4 (by decide) (by kernel_rfl)
        simp only [laidIn, lz1, lz2, lz3, lz4, lz5, lz6, if_true, Act.put, lz7, lz8, lz9] at hK ⊢
        simp only [d4] at hK ⊢
        go_simp
        exact hK.out _ _ (Below.refl _ _) rfl (not_fresh rfl)
      case refine_2 =>
        refine OpDoes.mk rfl ?_
        intro vs V hV hd K hK
        have d0 : vs 0 = .agg #[.bool g1, .slice a1 x1.length c1, .slice e1 y1.length t1] := hd 0 (by decide) (by kernel_rfl)
        have hh := fun (P : Prop) => Yield.frac_elim P (show ((Yield.frac Y1.heap.size (Rat.divInt (n : Int) 1) (1)) : Yield).At (vs 3) V from hd 3 (by decide) (by kernel_rfl))
        refine hh _ ?_
        intro g3 a3 c3 x3 e3 t3 y3 d3 F3 P3 I3
        clear hh
        simp only [laidIn, lz1, lz2, lz3, lz4, lz5, lz6, if_true, Act.put, lz7, lz8, lz9] at hK ⊢
        simp only [d0, d3] at hK ⊢
        go_simp
        go_at_call 7
        have hc := pcmp_ok g1 g3 (F1.below hV) F3 I1 I3 (by omega)
        rw [HHV.out] at hc
        refine (hc).mono ?_
        rintro e V' ⟨rfl, hb⟩
        exact hK.out _ _ hb rfl (not_fresh rfl)
      case refine_3 =>
        refine OpDoes.mk rfl ?_
        intro vs V hV hd K hK
        have d2 : vs 2 = .int .i64 (n : Int) := hd 2 (by decide) (by kernel_rfl)
        simp only [laidIn, lz1, lz2, lz3, lz4, lz5, lz6, if_true, Act.put, lz7, lz8, lz9] at hK ⊢
        simp only [d2] at hK ⊢
        go_simp
        go_at_call 8
        refine (lt_part_any (n : Int) 1 (by omega) (by decide) (by decide) _).mono ?_
        rintro e V' ⟨g3, a3, c3, x3, e3, t3, y3, rfl, F3, P3, I3, hb⟩
        replace I3 : Is g3 x3 y3 (Rat.divInt (n : Int) 1) (1) := I3.mono (by omega)
        exact hK.out _ _ hb ⟨_, _, _, _, _, _, _, rfl, F3.mono hV.size, P3, I3⟩ (not_fresh rfl)
      case refine_4 =>
        refine OpDoes.mk rfl ?_
        intro vs V hV hd K hK
        have d1 : vs 1 = .slice a n c := hd 1 (by decide) (by kernel_rfl)
        simp only [laidIn, lz1, lz2, lz3, lz4, lz5, lz6, if_true, Act.put, lz7, lz8, lz9] at hK ⊢
        simp only [d1] at hK ⊢
        go_simp
        exact hK.out _ _ (Below.refl _ _) rfl (not_fresh rfl)
      case refine_5 =>
        refine OpDoes.mk rfl ?_
        intro vs V hV hd K hK
        simp only [laidIn, lz1, lz2, lz3, lz4, lz5, lz6, if_true, Act.put, lz7, lz8, lz9] at hK ⊢
        go_simp
        exact hK.out _ _ (Below.refl _ _) rfl (not_fresh rfl)
      case refine_6 =>
        refine OpDoes.mk rfl ?_
        intro vs V hV hd K hK
        have hcc := (E1.below hV).three
        have k0 := hcc.1
        have k1 := hcc.2.1
        have k2 := hcc.2.2.1
        clear hcc
        simp only [laidIn, lz1, lz2, lz4, lz5, lz6, if_true, Act.put, lz7, lz8, lz9] at hK ⊢
        go_simp
        exact hK.out _ _ (Below.refl _ _) rfl (not_fresh rfl)
      case refine_7 =>
        intro vs Y2 hV hR hne fuel
        have d0 : vs 0 = .agg #[.bool g1, .slice a1 x1.length c1, .slice e1 y1.length t1] := hR 0 (by decide)
        have d1 : vs 1 = .slice a n c := hR 1 (by decide)
        have d2 : vs 2 = .int .i64 (n : Int) := hR 2 (by decide)
        have hh := fun (P : Prop) => Yield.frac_elim P (show ((Yield.frac Y1.heap.size (Rat.divInt (n : Int) 1) (1)) : Yield).At (vs 3) Y2 from hR 3 (by decide))
        refine hh _ ?_
        intro g3 a3 c3 x3 e3 t3 y3 d3 F3 P3 I3
        clear hh
        have d4 : vs 4 = .tuple #[.int .i64 hv, .int .i64 0] := hR 4 (by decide)
        have d5 : vs 5 = .tuple #[.int .i64 hv, .int .i64 0] := hR 5 (by decide)
        replace XT := XT.below hV
        replace F1 := F1.below hV
        replace E1 := E1.below hV
        have hr := hV
        simp only [laidIn, lz4, lz5, lz6, if_true, Act.put, lz7, lz8, lz9]
        simp only [d0, d1, d2, d3, d4, d5]
        clear hR hne hV d0 d1 d2 d3 d4 d5
        clear vs
        show wpAny _ _ _ _ (fuel + 4) _ _ _
        apply mp_of
        case f =>
          intro hgoal
          refine wpAny_all (rs := [6, 7]) (by kernel_rfl) (by simp) (fun i hi => ?_)
          rcases (show i = 6 ∨ i = 7 by simpa using hi) with rfl | rfl
          · clear hi
            refine wpOp_step rfl (fun K hK => ?_)
            simp only [lz1, lz2, lz3]
            rw [if_pos (by rfl)]
            go_simp
            refine hK _ _ ?_
            clear hK
            refine wpAny_all (rs := [7, 8]) (by kernel_rfl) (by simp) (fun i hi => ?_)
            rcases (show i = 7 ∨ i = 8 by simpa using hi) with rfl | rfl
            · clear hi
              refine wpOp_step rfl (fun K hK => ?_)
              simp only [lz1, lz2, lz3]
              rw [if_pos (by rfl)]
              go_simp
              refine hK _ _ ?_
              clear hK
              refine wpAny_all (rs := [8]) (by kernel_rfl) (by simp) (fun i hi => ?_)
              obtain rfl : i = 8 := by simpa using hi
              clear hi
              refine wpOp_step rfl (fun K hK => ?_)
              simp only [lz1, lz2, lz3]
              rw [if_pos (by rfl)]
              go_simp
              refine hK _ _ ?_
              clear hK
              refine wpAny_all (rs := [9]) (by kernel_rfl) (by simp) (fun i hi => ?_)
              obtain rfl : i = 9 := by simpa using hi
              clear hi
              refine wpOp_step rfl (fun K hK => ?_)
              simp only [lz1, lz2, lz3]
              rw [if_pos (by rfl)]
              go_simp
              refine hK _ _ ?_
              clear hK
              refine wpAny_done (by kernel_rfl) ?_ _
              exact hgoal
            · clear hi
              refine wpOp_step rfl (fun K hK => ?_)
              simp only [lz1, lz2, lz3]
              rw [if_pos (by rfl)]
              go_simp
              refine hK _ _ ?_
              clear hK
              refine wpAny_all (rs := [7]) (by kernel_rfl) (by simp) (fun i hi => ?_)
              obtain rfl : i = 7 := by simpa using hi
              clear hi
              refine wpOp_step rfl (fun K hK => ?_)
              simp only [lz1, lz2, lz3]
              rw [if_pos (by rfl)]
              go_simp
              refine hK _ _ ?_
              clear hK
              refine wpAny_all (rs := [9]) (by kernel_rfl) (by simp) (fun i hi => ?_)
              obtain rfl : i = 9 := by simpa using hi
              clear hi
              refine wpOp_step rfl (fun K hK => ?_)
              simp only [lz1, lz2, lz3]
              rw [if_pos (by rfl)]
              go_simp
              refine hK _ _ ?_
              clear hK
              refine wpAny_done (by kernel_rfl) ?_ _
              exact hgoal
          · clear hi
            refine wpOp_step rfl (fun K hK => ?_)
            simp only [lz1, lz2, lz3]
            rw [if_pos (by rfl)]
            go_simp
            refine hK _ _ ?_
            clear hK
            refine wpAny_all (rs := [6]) (by kernel_rfl) (by simp) (fun i hi => ?_)
            obtain rfl : i = 6 := by simpa using hi
            clear hi
            refine wpOp_step rfl (fun K hK => ?_)
            simp only [lz1, lz2, lz3]
            rw [if_pos (by rfl)]
            go_simp
            refine hK _ _ ?_
            clear hK
            refine wpAny_all (rs := [8]) (by kernel_rfl) (by simp) (fun i hi => ?_)
            obtain rfl : i = 8 := by simpa using hi
            clear hi
            refine wpOp_step rfl (fun K hK => ?_)
            simp only [lz1, lz2, lz3]
            rw [if_pos (by rfl)]
            go_simp
            refine hK _ _ ?_
            clear hK
            refine wpAny_all (rs := [9]) (by kernel_rfl) (by simp) (fun i hi => ?_)
            obtain rfl : i = 9 := by simpa using hi
            clear hi
            refine wpOp_step rfl (fun K hK => ?_)
            simp only [lz1, lz2, lz3]
            rw [if_pos (by rfl)]
            go_simp
            refine hK _ _ ?_
            clear hK
            refine wpAny_done (by kernel_rfl) ?_ _
            exact hgoal
        case p =>
          replace hB := hB.trans ((Below.trans (Below.drew (Below.refl Y1.heap.size Y1)) hr).mono hB.size)
          have zz4_0 := hr.size
          have zi2 := hB.size
          clear hr
          clear F3 I3
          clear F1 E1 I1
          go_wp2_with fail
          refine (pick_is (n : Int) (by omega) (by omega) x _).mono ?_
          rintro e w5 ⟨pw, hpw, rfl, hb⟩
          have hpn : pw < n := by omega
          have HC1 := hide (HC1A.out pw hpn)
          have HQ1 := hide (HQ1A.out pw hpn)
          clear HC1A HQ1A
          replace XT := XT.below hb
          replace hB := hB.trans (hb.mono hB.size)
          have zz5 := hb.size
          have zh5 := hB.size
          clear hb
          go_wp2_with fail
          have HXB : Hid (zs ≠ [] → ∀ b o, a = some ⟨b, o, none⟩ → b < w5.heap.size) := fun hz b o e => Nat.lt_of_lt_of_le (HXW.out hz b o e) hB.size
          obtain ⟨ZZ, hmk, hmz⟩ := intz_make n (by omega)
          apply mp_made (F := MadeF w5 n)
          case f =>
            intro hgoal
            refine wp_region_held_drew (S := fun _ : World => True) (by kernel_rfl) trivial (fun hHeld => ?_)
            refine wpAnyH_take (i := 0) (v := ?_) rfl (by kernel_rfl) (by kernel_rfl) (by kernel_rfl) (fun _ _ _ h => h) (Or.inl ⟨by rfl, ?_⟩) (by assumption) ?_
            rotate_left
            · intro w hSw
              try dsimp only at hSw
              go_simp
              try with_reducible rfl
            simp only [Act.put, lz7, lz8, lz9, lz1, lz2]
            refine wpAnyH_take (i := 1) (v := ?_) rfl (by kernel_rfl) (by kernel_rfl) (by kernel_rfl) (fun _ _ _ h => h) (Or.inl ⟨by rfl, ?_⟩) (by assumption) ?_
            rotate_left
            · intro w hSw
              try dsimp only at hSw
              go_simp
              try with_reducible rfl
            simp only [Act.put, lz7, lz8, lz9, lz1, lz2, lz3]
            refine wpAnyH_take (i := 3) (v := ?_) rfl (by kernel_rfl) (by kernel_rfl) (by kernel_rfl) (fun _ _ _ h => h) (Or.inl ⟨by rfl, ?_⟩) (by assumption) ?_
            rotate_left
            · intro w hSw
              try dsimp only at hSw
              go_simp
              try with_reducible rfl
            simp only [Act.put, lz7, lz8, lz9, lz1, lz2, lz3]
            refine wpAnyH_take (i := 4) (v := ?_) rfl (by kernel_rfl) (by kernel_rfl) (by kernel_rfl) (fun _ _ _ h => h) (Or.inl ⟨by rfl, ?_⟩) (by assumption) ?_
            rotate_left
            · intro w hSw
              try dsimp only at hSw
              go_simp
              try with_reducible rfl
            simp only [Act.put, lz7, lz8, lz9, lz1, lz2, lz3]
            refine wpAnyH_take (i := 6) (v := ?_) rfl (by kernel_rfl) (by kernel_rfl) (by kernel_rfl) (fun _ _ _ h => h) (Or.inl ⟨by rfl, ?_⟩) (by assumption) ?_
            rotate_left
            · intro w hSw
              try dsimp only at hSw
              go_simp
              try with_reducible rfl
            simp only [Act.put, lz7, lz8, lz9, lz1, lz2, lz3]
            refine wpAnyH_take (i := 7) (v := ?_) rfl (by kernel_rfl) (by kernel_rfl) (by kernel_rfl) (fun _ _ _ h => h) (Or.inl ⟨by rfl, ?_⟩) (by assumption) ?_
            rotate_left
            · intro w hSw
              try dsimp only at hSw
              go_simp
              try with_reducible rfl
            simp only [Act.put, lz7, lz8, lz9, lz1, lz2, lz3]
            refine wpAnyH_ready (rs := [2, 5, 8]) (by kernel_rfl) (by simp) ?_
            refine AllReadyH.cons rfl (fun K hK => ?_) (AllReadyH.cons rfl (fun K hK => ?_) (AllReadyH.cons rfl (fun K hK => ?_) AllReadyH.nil))
            · skip
              go_simp
              clear hHeld
              refine hK.out _ _ trivial (fun hHeld => ?_)
              clear hK K
              try simp only [Act.put, List.setIfInBounds_toArray, List.set_cons_zero, List.set_cons_succ, List.getElem_toArray, List.getElem_cons_zero, List.getElem_cons_succ]
              refine wpAnyH_take (i := 9) (v := ?_) rfl (by kernel_rfl) (by kernel_rfl) (by kernel_rfl) (fun _ _ _ h => h) (Or.inl ⟨by rfl, ?_⟩) (by assumption) ?_
              rotate_left
              · intro w hSw
                try dsimp only at hSw
                go_simp
                try with_reducible rfl
              simp only [Act.put, lz7, lz8, lz9, lz1, lz2, lz3]
              refine wpAnyH_ready (rs := [5, 8]) (by kernel_rfl) (by simp) ?_
              refine AllReadyH.cons rfl (fun K hK => ?_) (AllReadyH.cons rfl (fun K hK => ?_) AllReadyH.nil)
              · skip
                go_simp
                clear hHeld
                refine hK.out _ _ trivial (fun hHeld => ?_)
                clear hK K
                try simp only [Act.put, List.setIfInBounds_toArray, List.set_cons_zero, List.set_cons_succ, List.getElem_toArray, List.getElem_cons_zero, List.getElem_cons_succ]
                refine wpAnyH_take (i := 10) (v := ?_) rfl (by kernel_rfl) (by kernel_rfl) (by kernel_rfl) (fun _ _ _ h => h) (Or.inl ⟨by rfl, ?_⟩) (by assumption) ?_
                rotate_left
                · intro w hSw
                  try dsimp only at hSw
                  go_simp
                  try with_reducible rfl
                simp only [Act.put, lz7, lz8, lz9, lz1, lz2, lz3]
                refine wpAnyH_ready (rs := [8]) (by kernel_rfl) (by simp) ?_
                refine AllReadyH.cons rfl (fun K hK => ?_) AllReadyH.nil
                · skip
                  go_simp
                  clear hHeld
                  refine hK.out _ _ trivial (fun hHeld => ?_)
                  clear hK K
                  try simp only [Act.put, List.setIfInBounds_toArray, List.set_cons_zero, List.set_cons_succ, List.getElem_toArray, List.getElem_cons_zero, List.getElem_cons_succ]
                  refine wpAnyH_take (i := 11) (v := ?_) rfl (by kernel_rfl) (by kernel_rfl) (by kernel_rfl) (fun _ _ _ h => h) (Or.inl ⟨by rfl, ?_⟩) (by assumption) ?_
                  rotate_left
                  · intro w hSw
                    try dsimp only at hSw
                    go_simp
                    try with_reducible rfl
                  simp only [Act.put, lz7, lz8, lz9, lz1, lz2, lz3]
                  refine wpAnyH_done (by kernel_rfl) ?_ _
                  clear hHeld
                  have hm : MadeF w5 n w5.heap.size (w5.heap.size + 1) (w5.heap.size + 1 + 1) (((w5.alloc ZZ).alloc ZZ).alloc ZZ).drew := made_leaf hmz w5 0 1 2 (by decide) (by decide) (by decide) (by decide) (by decide) (by decide)
                  obtain ⟨Y, hY⟩ : ∃ Y, (((w5.alloc ZZ).alloc ZZ).alloc ZZ).drew = Y := ⟨_, rfl⟩
                  rw [hY] at hm ⊢
                  clear hY
                  generalize w5.heap.size + 1 + 1 = b2 at hm ⊢
                  generalize w5.heap.size + 1 = b1 at hm ⊢
                  generalize w5.heap.size = b0 at hm ⊢
                  exact hgoal _ _ _ Y hm
              · skip
                go_simp
                clear hHeld
                refine hK.out _ _ trivial (fun hHeld => ?_)
                clear hK K
                try simp only [Act.put, List.setIfInBounds_toArray, List.set_cons_zero, List.set_cons_succ, List.getElem_toArray, List.getElem_cons_zero, List.getElem_cons_succ]
                refine wpAnyH_ready (rs := [5]) (by kernel_rfl) (by simp) ?_
                refine AllReadyH.cons rfl (fun K hK => ?_) AllReadyH.nil
                · skip
                  go_simp
                  clear hHeld
                  refine hK.out _ _ trivial (fun hHeld => ?_)
                  clear hK K
                  try simp only [Act.put, List.setIfInBounds_toArray, List.set_cons_zero, List.set_cons_succ, List.getElem_toArray, List.getElem_cons_zero, List.getElem_cons_succ]
                  refine wpAnyH_take (i := 10) (v := ?_) rfl (by kernel_rfl) (by kernel_rfl) (by kernel_rfl) (fun _ _ _ h => h) (Or.inl ⟨by rfl, ?_⟩) (by assumption) ?_
                  rotate_left
                  · intro w hSw
                    try dsimp only at hSw
                    go_simp
                    try with_reducible rfl
                  simp only [Act.put, lz7, lz8, lz9, lz1, lz2, lz3]
                  refine wpAnyH_take (i := 11) (v := ?_) rfl (by kernel_rfl) (by kernel_rfl) (by kernel_rfl) (fun _ _ _ h => h) (Or.inl ⟨by rfl, ?_⟩) (by assumption) ?_
                  rotate_left
                  · intro w hSw
                    try dsimp only at hSw
                    go_simp
                    try with_reducible rfl
                  simp only [Act.put, lz7, lz8, lz9, lz1, lz2, lz3]
                  refine wpAnyH_done (by kernel_rfl) ?_ _
                  clear hHeld
                  have hm : MadeF w5 n w5.heap.size (w5.heap.size + 1 + 1) (w5.heap.size + 1) (((w5.alloc ZZ).alloc ZZ).alloc ZZ).drew := made_leaf hmz w5 0 2 1 (by decide) (by decide) (by decide) (by decide) (by decide) (by decide)
                  obtain ⟨Y, hY⟩ : ∃ Y, (((w5.alloc ZZ).alloc ZZ).alloc ZZ).drew = Y := ⟨_, rfl⟩
                  rw [hY] at hm ⊢
                  clear hY
                  generalize w5.heap.size + 1 + 1 = b2 at hm ⊢
                  generalize w5.heap.size + 1 = b1 at hm ⊢
                  generalize w5.heap.size = b0 at hm ⊢
                  exact hgoal _ _ _ Y hm
            · skip
              go_simp
              clear hHeld
              refine hK.out _ _ trivial (fun hHeld => ?_)
              clear hK K
              try simp only [Act.put, List.setIfInBounds_toArray, List.set_cons_zero, List.set_cons_succ, List.getElem_toArray, List.getElem_cons_zero, List.getElem_cons_succ]
              refine wpAnyH_ready (rs := [2, 8]) (by kernel_rfl) (by simp) ?_
              refine AllReadyH.cons rfl (fun K hK => ?_) (AllReadyH.cons rfl (fun K hK => ?_) AllReadyH.nil)
              · skip
                go_simp
                clear hHeld
                refine hK.out _ _ trivial (fun hHeld => ?_)
                clear hK K
                try simp only [Act.put, List.setIfInBounds_toArray, List.set_cons_zero, List.set_cons_succ, List.getElem_toArray, List.getElem_cons_zero, List.getElem_cons_succ]
                refine wpAnyH_take (i := 9) (v := ?_) rfl (by kernel_rfl) (by kernel_rfl) (by kernel_rfl) (fun _ _ _ h => h) (Or.inl ⟨by rfl, ?_⟩) (by assumption) ?_
                rotate_left
                · intro w hSw
                  try dsimp only at hSw
                  go_simp
                  try with_reducible rfl
                simp only [Act.put, lz7, lz8, lz9, lz1, lz2, lz3]
                refine wpAnyH_take (i := 10) (v := ?_) rfl (by kernel_rfl) (by kernel_rfl) (by kernel_rfl) (fun _ _ _ h => h) (Or.inl ⟨by rfl, ?_⟩) (by assumption) ?_
                rotate_left
                · intro w hSw
                  try dsimp only at hSw
                  go_simp
                  try with_reducible rfl
                simp only [Act.put, lz7, lz8, lz9, lz1, lz2, lz3]
                refine wpAnyH_ready (rs := [8]) (by kernel_rfl) (by simp) ?_
                refine AllReadyH.cons rfl (fun K hK => ?_) AllReadyH.nil
                · skip
                  go_simp
                  clear hHeld
                  refine hK.out _ _ trivial (fun hHeld => ?_)
                  clear hK K
                  try simp only [Act.put, List.setIfInBounds_toArray, List.set_cons_zero, List.set_cons_succ, List.getElem_toArray, List.getElem_cons_zero, List.getElem_cons_succ]
                  refine wpAnyH_take (i := 11) (v := ?_) rfl (by kernel_rfl) (by kernel_rfl) (by kernel_rfl) (fun _ _ _ h => h) (Or.inl ⟨by rfl, ?_⟩) (by assumption) ?_
                  rotate_left
                  · intro w hSw
                    try dsimp only at hSw
                    go_simp
                    try with_reducible rfl
                  simp only [Act.put, lz7, lz8, lz9, lz1, lz2, lz3]
                  refine wpAnyH_done (by kernel_rfl) ?_ _
                  clear hHeld
                  have hm : MadeF w5 n (w5.heap.size + 1) w5.heap.size (w5.heap.size + 1 + 1) (((w5.alloc ZZ).alloc ZZ).alloc ZZ).drew := made_leaf hmz w5 1 0 2 (by decide) (by decide) (by decide) (by decide) (by decide) (by decide)
                  obtain ⟨Y, hY⟩ : ∃ Y, (((w5.alloc ZZ).alloc ZZ).alloc ZZ).drew = Y := ⟨_, rfl⟩
                  rw [hY] at hm ⊢
                  clear hY
                  generalize w5.heap.size + 1 + 1 = b2 at hm ⊢
                  generalize w5.heap.size + 1 = b1 at hm ⊢
                  generalize w5.heap.size = b0 at hm ⊢
                  exact hgoal _ _ _ Y hm
              · skip
                go_simp
                clear hHeld
                refine hK.out _ _ trivial (fun hHeld => ?_)
                clear hK K
                try simp only [Act.put, List.setIfInBounds_toArray, List.set_cons_zero, List.set_cons_succ, List.getElem_toArray, List.getElem_cons_zero, List.getElem_cons_succ]
                refine wpAnyH_ready (rs := [2]) (by kernel_rfl) (by simp) ?_
                refine AllReadyH.cons rfl (fun K hK => ?_) AllReadyH.nil
                · skip
                  go_simp
                  clear hHeld
                  refine hK.out _ _ trivial (fun hHeld => ?_)
                  clear hK K
                  try simp only [Act.put, List.setIfInBounds_toArray, List.set_cons_zero, List.set_cons_succ, List.getElem_toArray, List.getElem_cons_zero, List.getElem_cons_succ]
                  refine wpAnyH_take (i := 9) (v := ?_) rfl (by kernel_rfl) (by kernel_rfl) (by kernel_rfl) (fun _ _ _ h => h) (Or.inl ⟨by rfl, ?_⟩) (by assumption) ?_
                  rotate_left
                  · intro w hSw
                    try dsimp only at hSw
                    go_simp
                    try with_reducible rfl
                  simp only [Act.put, lz7, lz8, lz9, lz1, lz2, lz3]
                  refine wpAnyH_take (i := 10) (v := ?_) rfl (by kernel_rfl) (by kernel_rfl) (by kernel_rfl) (fun _ _ _ h => h) (Or.inl ⟨by rfl, ?_⟩) (by assumption) ?_
                  rotate_left
                  · intro w hSw
                    try dsimp only at hSw
                    go_simp
                    try with_reducible rfl
                  simp only [Act.put, lz7, lz8, lz9, lz1, lz2, lz3]
                  refine wpAnyH_take (i := 11) (v := ?_) rfl (by kernel_rfl) (by kernel_rfl) (by kernel_rfl) (fun _ _ _ h => h) (Or.inl ⟨by rfl, ?_⟩) (by assumption) ?_
                  rotate_left
                  · intro w hSw
                    try dsimp only at hSw
                    go_simp
                    try with_reducible rfl
                  simp only [Act.put, lz7, lz8, lz9, lz1, lz2, lz3]
                  refine wpAnyH_done (by kernel_rfl) ?_ _
                  clear hHeld
                  have hm : MadeF w5 n (w5.heap.size + 1 + 1) w5.heap.size (w5.heap.size + 1) (((w5.alloc ZZ).alloc ZZ).alloc ZZ).drew := made_leaf hmz w5 2 0 1 (by decide) (by decide) (by decide) (by decide) (by decide) (by decide)
                  obtain ⟨Y, hY⟩ : ∃ Y, (((w5.alloc ZZ).alloc ZZ).alloc ZZ).drew = Y := ⟨_, rfl⟩
                  rw [hY] at hm ⊢
                  clear hY
                  generalize w5.heap.size + 1 + 1 = b2 at hm ⊢
                  generalize w5.heap.size + 1 = b1 at hm ⊢
                  generalize w5.heap.size = b0 at hm ⊢
                  exact hgoal _ _ _ Y hm
            · skip
              go_simp
              clear hHeld
              refine hK.out _ _ trivial (fun hHeld => ?_)
              clear hK K
              try simp only [Act.put, List.setIfInBounds_toArray, List.set_cons_zero, List.set_cons_succ, List.getElem_toArray, List.getElem_cons_zero, List.getElem_cons_succ]
              refine wpAnyH_ready (rs := [2, 5]) (by kernel_rfl) (by simp) ?_
              refine AllReadyH.cons rfl (fun K hK => ?_) (AllReadyH.cons rfl (fun K hK => ?_) AllReadyH.nil)
              · skip
                go_simp
                clear hHeld
                refine hK.out _ _ trivial (fun hHeld => ?_)
                clear hK K
                try simp only [Act.put, List.setIfInBounds_toArray, List.set_cons_zero, List.set_cons_succ, List.getElem_toArray, List.getElem_cons_zero, List.getElem_cons_succ]
                refine wpAnyH_take (i := 9) (v := ?_) rfl (by kernel_rfl) (by kernel_rfl) (by kernel_rfl) (fun _ _ _ h => h) (Or.inl ⟨by rfl, ?_⟩) (by assumption) ?_
                rotate_left
                · intro w hSw
                  try dsimp only at hSw
                  go_simp
                  try with_reducible rfl
                simp only [Act.put, lz7, lz8, lz9, lz1, lz2, lz3]
                refine wpAnyH_ready (rs := [5]) (by kernel_rfl) (by simp) ?_
                refine AllReadyH.cons rfl (fun K hK => ?_) AllReadyH.nil
                · skip
                  go_simp
                  clear hHeld
                  refine hK.out _ _ trivial (fun hHeld => ?_)
                  clear hK K
                  try simp only [Act.put, List.setIfInBounds_toArray, List.set_cons_zero, List.set_cons_succ, List.getElem_toArray, List.getElem_cons_zero, List.getElem_cons_succ]
                  refine wpAnyH_take (i := 10) (v := ?_) rfl (by kernel_rfl) (by kernel_rfl) (by kernel_rfl) (fun _ _ _ h => h) (Or.inl ⟨by rfl, ?_⟩) (by assumption) ?_
                  rotate_left
                  · intro w hSw
                    try dsimp only at hSw
                    go_simp
                    try with_reducible rfl
                  simp only [Act.put, lz7, lz8, lz9, lz1, lz2, lz3]
                  refine wpAnyH_take (i := 11) (v := ?_) rfl (by kernel_rfl) (by kernel_rfl) (by kernel_rfl) (fun _ _ _ h => h) (Or.inl ⟨by rfl, ?_⟩) (by assumption) ?_
                  rotate_left
                  · intro w hSw
                    try dsimp only at hSw
                    go_simp
                    try with_reducible rfl
                  simp only [Act.put, lz7, lz8, lz9, lz1, lz2, lz3]
                  refine wpAnyH_done (by kernel_rfl) ?_ _
                  clear hHeld
                  have hm : MadeF w5 n (w5.heap.size + 1) (w5.heap.size + 1 + 1) w5.heap.size (((w5.alloc ZZ).alloc ZZ).alloc ZZ).drew := made_leaf hmz w5 1 2 0 (by decide) (by decide) (by decide) (by decide) (by decide) (by decide)
                  obtain ⟨Y, hY⟩ : ∃ Y, (((w5.alloc ZZ).alloc ZZ).alloc ZZ).drew = Y := ⟨_, rfl⟩
                  rw [hY] at hm ⊢
                  clear hY
                  generalize w5.heap.size + 1 + 1 = b2 at hm ⊢
                  generalize w5.heap.size + 1 = b1 at hm ⊢
                  generalize w5.heap.size = b0 at hm ⊢
                  exact hgoal _ _ _ Y hm
              · skip
                go_simp
                clear hHeld
                refine hK.out _ _ trivial (fun hHeld => ?_)
                clear hK K
                try simp only [Act.put, List.setIfInBounds_toArray, List.set_cons_zero, List.set_cons_succ, List.getElem_toArray, List.getElem_cons_zero, List.getElem_cons_succ]
                refine wpAnyH_ready (rs := [2]) (by kernel_rfl) (by simp) ?_
                refine AllReadyH.cons rfl (fun K hK => ?_) AllReadyH.nil
                · skip
                  go_simp
                  clear hHeld
                  refine hK.out _ _ trivial (fun hHeld => ?_)
                  clear hK K
                  try simp only [Act.put, List.setIfInBounds_toArray, List.set_cons_zero, List.set_cons_succ, List.getElem_toArray, List.getElem_cons_zero, List.getElem_cons_succ]
                  refine wpAnyH_take (i := 9) (v := ?_) rfl (by kernel_rfl) (by kernel_rfl) (by kernel_rfl) (fun _ _ _ h => h) (Or.inl ⟨by rfl, ?_⟩) (by assumption) ?_
                  rotate_left
                  · intro w hSw
                    try dsimp only at hSw
                    go_simp
                    try with_reducible rfl
                  simp only [Act.put, lz7, lz8, lz9, lz1, lz2, lz3]
                  refine wpAnyH_take (i := 10) (v := ?_) rfl (by kernel_rfl) (by kernel_rfl) (by kernel_rfl) (fun _ _ _ h => h) (Or.inl ⟨by rfl, ?_⟩) (by assumption) ?_
                  rotate_left
                  · intro w hSw
                    try dsimp only at hSw
                    go_simp
                    try with_reducible rfl
                  simp only [Act.put, lz7, lz8, lz9, lz1, lz2, lz3]
                  refine wpAnyH_take (i := 11) (v := ?_) rfl (by kernel_rfl) (by kernel_rfl) (by kernel_rfl) (fun _ _ _ h => h) (Or.inl ⟨by rfl, ?_⟩) (by assumption) ?_
                  rotate_left
                  · intro w hSw
                    try dsimp only at hSw
                    go_simp
                    try with_reducible rfl
                  simp only [Act.put, lz7, lz8, lz9, lz1, lz2, lz3]
                  refine wpAnyH_done (by kernel_rfl) ?_ _
                  clear hHeld
                  have hm : MadeF w5 n (w5.heap.size + 1 + 1) (w5.heap.size + 1) w5.heap.size (((w5.alloc ZZ).alloc ZZ).alloc ZZ).drew := made_leaf hmz w5 2 1 0 (by decide) (by decide) (by decide) (by decide) (by decide) (by decide)
                  obtain ⟨Y, hY⟩ : ∃ Y, (((w5.alloc ZZ).alloc ZZ).alloc ZZ).drew = Y := ⟨_, rfl⟩
                  rw [hY] at hm ⊢
                  clear hY
                  generalize w5.heap.size + 1 + 1 = b2 at hm ⊢
                  generalize w5.heap.size + 1 = b1 at hm ⊢
                  generalize w5.heap.size = b0 at hm ⊢
                  exact hgoal _ _ _ Y hm
          case p =>
            rintro k1 k2 k3 Y ⟨n12, n13, n23, ZO, ZH, ZT, hV⟩
            replace XT := XT.below hV
            replace hB := hB.trans (hV.mono hB.size)
            have zz10 := hV.size
            clear hV hmk hmz
            clear ZZ
            have hcell := ZO.cell (j := pw) hpn
            rw [Nat.zero_add] at hcell
            have hc1 := hcell.1
            have hc2 := hcell.2
            clear hcell
            have HT1 := hide ((Turns.refl k1 Y).setCell pw (.int .i64 5))
            have hz := ZO.set (k := pw) (x := 5) (by rw [List.length_replicate]; exact hpn) (by decide)
            rw [Nat.zero_add] at hz
            have HZO := hide (show Intz w5.heap.size (Y.setCell ⟨k1, pw, none⟩ (.int .i64 5)) (.slice (some ⟨k1, 0, none⟩) n n) (oneL n pw) from hz)
            have HZH := hide (ZH.turns HT1.out (Ne.symm n12))
            have HZT := hide (ZT.turns HT1.out (Ne.symm n13))
            have hk1 : w5.heap.size ≤ k1 := by
              obtain ⟨b, o, e, h1, _⟩ := ZO.row hn0
              simp only [Option.some.injEq, Addr.mk.injEq] at e
              omega
            have hk2 : w5.heap.size ≤ k2 := by
              obtain ⟨b, o, e, h1, _⟩ := ZH.row hn0
              simp only [Option.some.injEq, Addr.mk.injEq] at e
              omega
            have hk3 : w5.heap.size ≤ k3 := by
              obtain ⟨b, o, e, h1, _⟩ := ZT.row hn0
              simp only [Option.some.injEq, Addr.mk.injEq] at e
              omega
            have HBY := hide (HT1.out.below.mono hk1)
            have HB0 := hide hB
            have HXT := hide XT
            clear hz ZO ZH ZT hB XT
            generalize (List.replicate n (0 : Int))[pw]?.getD 0 = old at *
            go_wp2
            go_loopw [15] (fun iv wr => ∃ i : Nat, i ≤ n ∧ iv = .int .i64 i ∧ Hid (Intz w5.heap.size wr (.slice (some ⟨k1, 0, none⟩) n n) (oneL n pw)) ∧ Hid (Intz w5.heap.size wr (.slice (some ⟨k2, 0, none⟩) n n) (halfL (zs.take i) ++ List.replicate (n - i) 0)) ∧ Hid (Intz w5.heap.size wr (.slice (some ⟨k3, 0, none⟩) n n) (twiceL (zs.take i) ++ List.replicate (n - i) 0)) ∧ Hid (Below w5.heap.size Y wr)) (fun iv _ => n - (intOf iv).toNat)
            case atStart => exact ⟨0, Nat.zero_le _, rfl, HZO.out, HZH.out, HZT.out, HBY.out⟩
            case round =>
              clear HZO HZH HZT HBY HT1 hc1 hc2
              obtain ⟨i, hi, rfl, HZO, HZH, HZT, HBY⟩ := hrel
              have HBX : Hid (Below Y.heap.size Y wr → True) := fun _ => trivial
              by_cases hik : i < n
              · have hki : (i : Int) < (n : Int) := by omega
                have XTW := HXT.out.below_lo (show Below w5.heap.size Y wr from HBY.out) HXB.out
                obtain ⟨bt, ot, rfl, _, _⟩ := XTW.row hn0
                have hx1 := (XTW.cell (j := i) hik).1
                have hxr := HIN.out i hik
                have HSH := hide (half_next (zs := zs) (n := n) (i := i) HN.out hik)
                have HST := hide (twice_next (zs := zs) (n := n) (i := i) HN.out hik)
                have HAT := hide (half_at (zs := zs) (n := n) (i := i) HN.out hik)
                obtain ⟨x, hx⟩ : ∃ x, zs[i]?.getD 0 = x := ⟨_, rfl⟩
                rw [hx] at hx1 hxr HSH HST HAT
                have hq : x.tdiv 2 = x / 2 := Int.tdiv_eq_ediv_of_nonneg hxr.1
                obtain ⟨v, hv⟩ : ∃ v, x / 2 = v := ⟨_, rfl⟩
                rw [hv] at hq HSH HST HAT
                have hvb : 0 ≤ v ∧ v ≤ 8388607 := by omega
                have hwq : IntKind.i64.wrap (x.tdiv 2) = v := by rw [hq, IntKind.wrap_i64]; omega
                have hwv : IntKind.i64.wrap v = v := by rw [IntKind.wrap_i64]; omega
                have hwv2 : IntKind.i64.wrap (2 * v) = 2 * v := by rw [IntKind.wrap_i64]; omega
                have hw1 : IntKind.i64.wrap ((i : Int) + 1) = (i : Int) + 1 := by rw [IntKind.wrap_i64]; omega
                have hlen : (halfL (zs.take i) ++ List.replicate (n - i) 0).length = n := by rw [List.length_append, halfL_len, List.length_take, List.length_replicate]; have := HN.out; omega
                have hlen2 : (twiceL (zs.take i) ++ List.replicate (n - i) 0).length = n := by rw [List.length_append, twiceL_len, List.length_take, List.length_replicate]; have := HN.out; omega
                have hcell := HZH.out.cell (j := i) hik
                rw [Nat.zero_add] at hcell
                have hc1 := hcell.1
                have hc2 := hcell.2
                clear hcell hx hv
                have HT1 := hide ((Turns.refl k2 wr).setCell i (.int .i64 v))
                have hz := HZH.out.set (k := i) (x := v) (by omega) (by omega)
                rw [Nat.zero_add, HSH.out] at hz
                have HZH2 := hide hz
                have HZO2 := hide (HZO.out.turns HT1.out n12)
                have hz3 := HZT.out.turns HT1.out (Ne.symm n23)
                have hcell := hz.cell (j := i) hik
                rw [Nat.zero_add, HAT.out] at hcell
                have hc3 := hcell.1
                clear hcell
                have hcell := hz3.cell (j := i) hik
                rw [Nat.zero_add] at hcell
                have hc4 := hcell.1
                have hc5 := hcell.2
                clear hcell
                have HT2 := hide ((Turns.refl k3 (wr.setCell ⟨k2, i, none⟩ (.int .i64 v))).setCell i (.int .i64 (2 * v)))
                have hz4 := hz3.set (k := i) (x := 2 * v) (by omega) (by omega)
                rw [Nat.zero_add, HST.out] at hz4
                have HZT3 := hide hz4
                have HZO3 := hide (HZO2.out.turns HT2.out n13)
                have HZH3 := hide (HZH2.out.turns HT2.out n23)
                have HBY3 := hide ((HBY.out.trans (HT1.out.below.mono hk2)).trans (HT2.out.below.mono hk3))
                generalize (halfL (zs.take i) ++ List.replicate (n - i) 0)[i]?.getD 0 = oldh at hc1
                generalize (twiceL (zs.take i) ++ List.replicate (n - i) 0)[i]?.getD 0 = oldt at hc4
                clear HAT hz hz3 hz4 HT1 HT2 HZH2 HZO2 HSH HST HZO HZH HZT HBY HBX XTW hlen hlen2 hq
                go_wp2
                exact ⟨⟨i + 1, by omega, by go_num, HZO3.out, HZH3.out, HZT3.out, HBY3.out⟩, by simp [intOf]; omega⟩
              · obtain rfl : n = i := by omega
                have hzo := HZO.out
                have hzh := HZH.out
                have hzt := HZT.out
                have hlz := HN.out
                rw [← hlz, List.take_length, hlz, Nat.sub_self, List.replicate_zero, List.append_nil] at hzh hzt
                have hB := HB0.out.trans (HBY.out.mono (by have := HB0.out.size; omega))
                clear HZO HZH HZT HBY HBX HXT
                go_wp2_with fail
                have hk := (tsmean_any hzo).mono (fun _ _ h => h.2 HC1.out)
                rw [HQ1.out] at hk
                refine (hk).mono ?_
                rintro e w6 ⟨g4, a4, c4, x4, e4, t4, y4, rfl, F4, P4, I4, hb⟩
                replace I4 : Is g4 x4 y4 (Rat.divInt ((pw : Int) + 1) 1) (1) := I4.mono (by omega)
                replace hzo := hzo.below hb
                replace hzh := hzh.below hb
                replace hzt := hzt.below hb
                replace hB := hB.trans (hb.mono hB.size)
                have zz6 := hb.size
                have zh6 := hB.size
                clear hb
                clear hk
                clear hzo
                have hwp : IntKind.i64.wrap ((pw : Int) + 1) = (pw : Int) + 1 := by rw [IntKind.wrap_i64]; omega
                have hs0 := Nat.le_refl w6.heap.size
                have hq := below_new w6 (.cells #[.bool g4, .slice a4 x4.length c4, .slice e4 y4.length t4] 31)
                replace hzh := hzh.below hq
                replace hzt := hzt.below hq
                replace F4 := F4.below hq
                have E4 := Box.put (w := w6) (k := (w6.heap.size)) (.cells #[.bool g4, .slice a4 x4.length c4, .slice e4 y4.length t4] 31) rfl
                replace hs0 := Nat.le_trans hs0 hq.size
                replace hB := hB.trans (hq.mono hB.size)
                clear hq
                go_wp2_with fail
                obtain ⟨u7, hname⟩ := nm hB
                rw [hname] at hs0 hB hzh hzt F4 E4 ⊢
                have zh7 := hB.size
                have zs7 := hs0
                clear hname hs0
                replace hzh := hzh.drew
                replace hzt := hzt.drew
                replace F4 := F4.drew
                have qE4 := E4.lt
                replace E4 := E4.drew
                have hr := Below.refl u7.drew.heap.size u7.drew
                have hkeep : ∀ V : World, Below u7.drew.heap.size u7.drew V → V.cell? ⟨w6.heap.size, 0, none⟩ = some (.bool g4) ∧ V.cell? ⟨w6.heap.size, 1, none⟩ = some (.slice a4 x4.length c4) ∧ V.cell? ⟨w6.heap.size, 2, none⟩ = some (.slice e4 y4.length t4) := fun V hV => ⟨(E4.below hV).three.1, (E4.below hV).three.2.1, (E4.below hV).three.2.2.1⟩
                refine wp_region_held_drew (S := fun V : World => V.cell? ⟨w6.heap.size, 0, none⟩ = some (.bool g4) ∧ V.cell? ⟨w6.heap.size, 1, none⟩ = some (.slice a4 x4.length c4) ∧ V.cell? ⟨w6.heap.size, 2, none⟩ = some (.slice e4 y4.length t4)) (by kernel_rfl) (hkeep _ hr) (fun hHeld => ?_)
                refine wpAnyH_take (i := 0) (v := ?_) rfl (by kernel_rfl) (by kernel_rfl) (by kernel_rfl) (fun _ _ _ h => h) (Or.inl ⟨by rfl, ?_⟩) (by assumption) ?_
                rotate_left
                · intro w hSw
                  try dsimp only at hSw
                  go_simp
                  try with_reducible rfl
                simp only [Act.put, lz7, lz8, lz9, lz1, lz2]
                refine wpAnyH_take (i := 1) (v := ?_) rfl (by kernel_rfl) (by kernel_rfl) (by kernel_rfl) (fun _ _ _ h => h) (Or.inl ⟨by rfl, ?_⟩) (by assumption) ?_
                rotate_left
                · intro w hSw
                  try dsimp only at hSw
                  go_simp
                  try with_reducible rfl
                simp only [Act.put, lz7, lz8, lz9, lz1, lz2, lz3]
                refine wpAnyH_take (i := 2) (v := ?_) rfl (by kernel_rfl) (by kernel_rfl) (by kernel_rfl) (fun _ _ _ h => h) (Or.inl ⟨by rfl, ?_⟩) (by assumption) ?_
                rotate_left
                · intro w hSw
                  try dsimp only at hSw
                  go_simp
                  try with_reducible rfl
                simp only [Act.put, lz7, lz8, lz9, lz1, lz2, lz3]
                refine wpAnyH_take (i := 3) (v := ?_) rfl (by kernel_rfl) (by kernel_rfl) (by kernel_rfl) (fun _ _ _ h => h) (Or.inl ⟨by rfl, ?_⟩) (by assumption) ?_
                rotate_left
                · intro w hSw
                  try dsimp only at hSw
                  go_simp
                  try with_reducible rfl
                simp only [Act.put, lz7, lz8, lz9, lz1, lz2, lz3]
                refine wpAnyH_take (i := 4) (v := ?_) rfl (by kernel_rfl) (by kernel_rfl) (by kernel_rfl) (fun _ _ _ h => h) (Or.inl ⟨by rfl, ?_⟩) (by assumption) ?_
                rotate_left
                · intro w hSw
                  try dsimp only at hSw
                  go_simp
                  try with_reducible rfl
                simp only [Act.put, lz7, lz8, lz9, lz1, lz2, lz3]
                refine wpAnyH_take (i := 5) (v := ?_) rfl (by kernel_rfl) (by kernel_rfl) (by kernel_rfl) (fun _ _ _ h => h) (Or.inl ⟨by rfl, ?_⟩) (by assumption) ?_
                rotate_left
                · intro w hSw
                  try dsimp only at hSw
                  go_simp
                  try with_reducible rfl
                simp only [Act.put, lz7, lz8, lz9, lz1, lz2, lz3]
                refine wpAnyH_ready (rs := [6]) (by kernel_rfl) (by simp) ?_
                refine AllReadyH.cons rfl (fun K hK => ?_) AllReadyH.nil
                go_simp
                go_at_call 8
                refine (lt_part_any ((pw : Int) + 1) 1 (by omega) (by decide) (by decide) _).mono ?_
                rintro e w8 ⟨g5, a5, c5, x5, e5, t5, y5, rfl, F5, P5, I5, hb⟩
                replace I5 : Is g5 x5 y5 (Rat.divInt ((pw : Int) + 1) 1) (1) := I5.mono (by omega)
                replace hzh := hzh.below hb
                replace hzt := hzt.below hb
                replace F4 := F4.below hb
                replace E4 := E4.below hb
                replace hr := hr.trans (hb.mono hr.size)
                have zw8 := hb.size
                clear hb
                dsimp only
                clear hHeld
                refine hK.out _ _ (hkeep _ hr) (fun hHeld => ?_)
                clear hK K
                try simp only [Act.put, List.setIfInBounds_toArray, List.set_cons_zero, List.set_cons_succ, List.getElem_toArray, List.getElem_cons_zero, List.getElem_cons_succ]
                refine wpAnyH_ready (rs := [7]) (by kernel_rfl) (by simp) ?_
                refine AllReadyH.cons rfl (fun K hK => ?_) AllReadyH.nil
                go_simp
                go_at_call 10
                refine (samer_is F4 F5 I4 I5 (by decide)).mono ?_
                rintro e w9 ⟨rfl, hb⟩
                replace hzh := hzh.below hb
                replace hzt := hzt.below hb
                replace F4 := F4.below hb
                replace E4 := E4.below hb
                replace F5 := F5.below hb
                replace hr := hr.trans (hb.mono hr.size)
                have zw9 := hb.size
                clear hb
                dsimp only
                clear hHeld
                refine hK.out _ _ (hkeep _ hr) (fun hHeld => ?_)
                clear hK K
                try simp only [Act.put, List.setIfInBounds_toArray, List.set_cons_zero, List.set_cons_succ, List.getElem_toArray, List.getElem_cons_zero, List.getElem_cons_succ]
                refine wpAnyH_take (i := 8) (v := ?_) rfl (by kernel_rfl) (by kernel_rfl) (by kernel_rfl) (fun _ _ _ h => h) (Or.inl ⟨by rfl, ?_⟩) (by assumption) ?_
                rotate_left
                · intro w hSw
                  try dsimp only at hSw
                  go_simp
                  try with_reducible rfl
                simp only [Act.put, lz7, lz8, lz9, lz1, lz2, lz3]
                refine wpAnyH_take (i := 9) (v := ?_) rfl (by kernel_rfl) (by kernel_rfl) (by kernel_rfl) (fun _ _ _ h => h) (Or.inl ⟨by rfl, ?_⟩) (by assumption) ?_
                rotate_left
                · intro w hSw
                  try dsimp only at hSw
                  go_simp
                  try with_reducible rfl
                simp only [Act.put, lz7, lz8, lz9, lz1, lz2, lz3]
                refine wpAnyH_done (by kernel_rfl) ?_ _
                clear hHeld
                replace hB := hB.trans ((Below.trans (Below.drew (Below.refl u7.heap.size u7)) hr).mono hB.size)
                have zi_9 := hB.size
                clear hr hkeep
                clear F4 F5 E4 I4 I5
                go_wp2_with fail
                have hk := (tsmean_any hzt).mono (fun _ _ h => h.1 HCT.out)
                refine (hk).mono ?_
                rintro e w10 ⟨rfl, hb⟩
                replace hzh := hzh.below hb
                replace hzt := hzt.below hb
                replace hB := hB.trans (hb.mono hB.size)
                have zz10 := hb.size
                have zh10 := hB.size
                clear hb
                clear hk
                have hs0 := Nat.le_refl w10.heap.size
                have hq := below_new w10 (.cells #[.bool false, .slice none 0 0, .slice none 0 0] 31)
                replace hzh := hzh.below hq
                replace hzt := hzt.below hq
                have E41 := Box.put (w := w10) (k := (w10.heap.size)) (.cells #[.bool false, .slice none 0 0, .slice none 0 0] 31) rfl
                replace hs0 := Nat.le_trans hs0 hq.size
                replace hB := hB.trans (hq.mono hB.size)
                clear hq
                go_wp2_with fail
                obtain ⟨u11, hname⟩ := nm hB
                rw [hname] at hs0 hB hzh hzt E41 ⊢
                have zh11 := hB.size
                have zs11 := hs0
                clear hname hs0
                have hk := (tsmean_any hzh).mono (fun _ _ h => h.1 HCH.out)
                refine (hk).mono ?_
                rintro e w12 ⟨rfl, hb⟩
                replace hzh := hzh.below hb
                replace hzt := hzt.below hb
                replace E41 := E41.below hb
                replace hB := hB.trans (hb.mono hB.size)
                have zz12 := hb.size
                have zh12 := hB.size
                clear hb
                clear hk
                obtain ⟨k0, k1, k2, f0, f1, f2⟩ := E41.three
                have qE41 := E41.lt
                have hs0 := Nat.le_refl w12.heap.size
                have hq := below_new w12 (.cells #[.bool false, .slice none 0 0, .slice none 0 0] 31)
                replace hzh := hzh.below hq
                replace hzt := hzt.below hq
                replace E41 := E41.below hq
                have E42 := Box.put (w := w12) (k := (w12.heap.size)) (.cells #[.bool false, .slice none 0 0, .slice none 0 0] 31) rfl
                replace hs0 := Nat.le_trans hs0 hq.size
                replace hB := hB.trans (hq.mono hB.size)
                clear hq
                go_wp2_with fail
                clear k0 k1 k2 f0 f1 f2
                obtain ⟨u13, hname⟩ := nm hB
                rw [hname] at hs0 hB hzh hzt E41 E42 ⊢
                have zh13 := hB.size
                have zs13 := hs0
                clear hname hs0
                refine (samer_yes false (fr_zero _) (fr_zero _) (by decide) (by decide)).mono ?_
                rintro e w14 ⟨rfl, hb⟩
                replace hzh := hzh.below hb
                replace hzt := hzt.below hb
                replace E41 := E41.below hb
                replace E42 := E42.below hb
                replace hB := hB.trans (hb.mono hB.size)
                have zz14 := hb.size
                have zh14 := hB.size
                clear hb
                go_wp2
                go_ret
                exact ⟨rfl, hB⟩

theorem ltmean_any {lo : Nat} {a : Option Addr} {n c : Nat} {zs : List Int} {w : World} (XT : Intz lo w (.slice a n c) zs) (x : Int) (_ : -9223372036854775808 ≤ x ∧ x ≤ 9223372036854775807) :
    Calls Tryz.prog 3 #[.slice a n c, .int .i64 x] w fun e w' => e = .returned (.bool true) ∧ Below w.heap.size w w' := by
  by_cases h : 60 < n
  · exact ltmean_long XT x h
  · by_cases h2 : chkT zs 60 = 0
    · by_cases h3 : chkT (halfL zs) 65536 = 0
      · exact ltmean_yes XT x (by omega) h2 h3
      · exact ltmean_none XT x (by omega) h2 h3
    · exact ltmean_no XT x (by omega) h2
end Go.Proofs.YtejocefblpkdjabGreat
