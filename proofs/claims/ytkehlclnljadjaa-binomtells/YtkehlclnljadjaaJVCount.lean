/-
  Joined: VCount BTellsA BTellsN BTells.
-/
import Derived.Test.YtkehlclnljadjaaJMul
import Derived.Test.YtkehlclnljadjaaRMulB
namespace Go.Proofs.Ytkehlclnljadjaa
open Go.RowKit
set_option maxRecDepth 100000 in
set_option maxHeartbeats 1000000 in
theorem vfalling_no (n k : Int) (hn : n < 0 ∨ 65536 < n ∨ k < 0) (w : World) :
    Calls Try.prog 12 #[.int .i64 n, .int .i64 k] w fun e w' => e = .returned (.tuple #[.slice none 0 0, .int .i64 3]) ∧ Below w.heap.size w w' := by
  have hB := Below.refl w.heap.size w
  by_cases h0 : n < 0
  · go_enter Try.func12, Try.ntmps12
    go_wp2
    all_goals
      go_ret2
      exact ⟨rfl, hB⟩
  · by_cases h1 : 65536 < n
    · go_enter Try.func12, Try.ntmps12
      go_wp2
      all_goals
        go_ret2
        exact ⟨rfl, hB⟩
    · have h2 : k < 0 := by omega
      clear hn
      go_enter Try.func12, Try.ntmps12
      go_wp2
      all_goals
        go_ret2
        exact ⟨rfl, hB⟩
set_option maxRecDepth 100000 in
set_option maxHeartbeats 1000000 in
theorem vfalling_any (n : Nat) (hn : n ≤ 1000) (k : Int) (hk : 0 ≤ k) (w : World) :
    Calls Try.prog 12 #[.int .i64 n, .int .i64 k] w fun e w' => ∃ (a : Option Addr) (c : Nat) (zs : List Int), e = .returned (.tuple #[.slice a zs.length c, .int .i64 0]) ∧ Seg w.heap.size w' (.slice a zs.length c) zs ∧ Norm zs ∧ Hid (val zs = (flI n k : Nat)) ∧ zs.length ≤ 1001 ∧ Below w.heap.size w w' := by
  have hB := Below.refl w.heap.size w
  have hn0 : ¬ (n : Int) < 0 := by omega
  have hn1 : ¬ (65536 : Int) < (n : Int) := by omega
  have hk0 : ¬ k < 0 := by omega
  by_cases h : (n : Int) < k
  · have HC : Hid (val [] = (flI n k : Nat)) := by unfold flI; rw [if_neg (by omega)]; rfl
    go_enter Try.func12, Try.ntmps12
    go_wp2
    all_goals
      go_ret2
      exact ⟨none, 0, [], rfl, Seg.nil _ _, norm_nil, HC, by simp, hB⟩
  · obtain ⟨m, rfl⟩ : ∃ m : Nat, k = m := ⟨k.toNat, by omega⟩
    have HC : Hid (flI n m = fl n m) := by unfold flI; rw [Hid, if_pos (by omega)]; rfl
    have hof := rof_any 1 (by omega) w
    have hmn : m ≤ n := by omega
    go_enter Try.func12, Try.ntmps12
    go_wp2_with fail
    refine hof.mono ?_
    rintro e w1 ⟨a1, c1, us, rfl, hs1, hn1', hv1, hl1, hb1⟩
    have HV1 : Hid (val us = (fl n 0 : Nat)) := by rw [Hid, hv1]; rfl
    clear hv1 hof
    go_wp2
    go_loopw [6, 7] (fun out cnt wr => ∃ (j : Nat) (ao : Option Addr) (co : Nat) (ss : List Int), j ≤ m ∧ out = .slice ao ss.length co ∧ cnt = .int .i64 j ∧ Seg w.heap.size wr (.slice ao ss.length co) ss ∧ Norm ss ∧ Hid (val ss = (fl n j : Nat)) ∧ ss.length ≤ j + 1 ∧ Below w.heap.size w wr) (fun _ c _ => m + 1 - (intOf c).toNat)
    case atStart => exact ⟨0, a1, c1, us, Nat.zero_le _, rfl, rfl, hs1, hn1', HV1, by omega, hb1⟩
    case round =>
      obtain ⟨j, ao, co, ss, hj, rfl, rfl, hss, hns, HE, hsl, hbr⟩ := hrel
      by_cases hjm : j < m
      · have hji : (j : Int) < (m : Int) := by omega
        have hu0 : 0 ≤ (n : Int) - j := by omega
        have hu1 : (n : Int) - j < 18446744073709551616 := by omega
        have hg := rgrow_any hss (by omega) ((n : Int) - j) ⟨hu0, hu1⟩
        go_wp2_with fail
        refine hg.mono ?_
        rintro e w2 ⟨a2, c2, z2, rfl, hs2, hn2, hv2, hl2, hb2⟩
        have HV2 : Hid (val z2 = (fl n (j + 1) : Nat)) := by
          rw [Hid, hv2, HE.out]
          show _ = ((fl n j * (n - j) : Nat) : Int)
          rw [Int.natCast_mul, Int.natCast_sub (by omega)]
        have hb02 := hbr.trans (hb2.mono hbr.size)
        have hs2' := hs2.mono hbr.size
        clear hv2 hg
        go_wp2
        exact ⟨⟨j + 1, a2, c2, z2, by omega, rfl, by go_num, hs2', hn2, HV2, by omega, hb02⟩, by simp [intOf]; omega⟩
      · obtain rfl : j = m := by omega
        have HF : Hid (val ss = (flI n j : Nat)) := by rw [Hid, HE.out, HC.out]
        go_wp2
        go_ret2
        exact ⟨_, _, ss, rfl, hss, hns, HF, by omega, hbr⟩
theorem Seg.tight {lo : Nat} {W : World} {b o n c : Nat} {zs : List Int} (h : Seg lo W (.slice (some ⟨b, o, none⟩) n c) zs) : Seg b W (.slice (some ⟨b, o, none⟩) n c) zs := by
  obtain ⟨hw, a, cap, e, h1, h3⟩ := h
  refine ⟨hw, a, cap, e, h1, fun hz => ?_⟩
  obtain ⟨b', off, e1, e2, r⟩ := h3 hz
  refine ⟨b', off, e1, ?_, r⟩
  subst e1
  simp only [Value.slice.injEq, Option.some.injEq, Addr.mk.injEq] at e
  omega
def falE (k : Int) : Int := if k < 0 then 3 else 0
def falV (n : Nat) (k : Int) : Nat := if k < 0 then 0 else flI n k
theorem fall_all (n : Nat) (hn : n ≤ 1000) (k : Int) (w : World) :
    Calls Try.prog 11 #[.int .i64 n, .int .i64 k] w fun e w' => ∃ (a : Option Addr) (c : Nat) (zs : List Int), e = .returned (.tuple #[.slice a zs.length c, .int .i64 (falE k)]) ∧ Seg w.heap.size w' (.slice a zs.length c) zs ∧ Norm zs ∧ Hid (val zs = (falV n k : Nat)) ∧ zs.length ≤ 1001 ∧ Below w.heap.size w w' := by
  by_cases h : k < 0
  · rw [show falE k = 3 from if_pos h, show falV n k = 0 from if_pos h]
    exact (falling_no n k (by omega) w).mono fun e w' ⟨e1, b1⟩ => ⟨none, 0, [], e1, Seg.nil _ _, norm_nil, rfl, by simp, b1⟩
  · rw [show falE k = 0 from if_neg h, show falV n k = flI n k from if_neg h]
    exact falling_any n hn k (by omega) w
theorem vfall_all (n : Nat) (hn : n ≤ 1000) (k : Int) (w : World) :
    Calls Try.prog 12 #[.int .i64 n, .int .i64 k] w fun e w' => ∃ (a : Option Addr) (c : Nat) (zs : List Int), e = .returned (.tuple #[.slice a zs.length c, .int .i64 (falE k)]) ∧ Seg w.heap.size w' (.slice a zs.length c) zs ∧ Norm zs ∧ Hid (val zs = (falV n k : Nat)) ∧ zs.length ≤ 1001 ∧ Below w.heap.size w w' := by
  by_cases h : k < 0
  · rw [show falE k = 3 from if_pos h, show falV n k = 0 from if_pos h]
    exact (vfalling_no n k (by omega) w).mono fun e w' ⟨e1, b1⟩ => ⟨none, 0, [], e1, Seg.nil _ _, norm_nil, rfl, by simp, b1⟩
  · rw [show falE k = 0 from if_neg h, show falV n k = flI n k from if_neg h]
    exact vfalling_any n hn k (by omega) w
set_option maxRecDepth 100000 in
set_option maxHeartbeats 1000000 in
theorem row_no (n : Int) (hn : n < 0 ∨ 1024 < n) (w : World) :
    Calls Try.prog 13 #[.int .i64 n] w fun e w' => e = .returned (.tuple #[.slice none 0 0, .int .i64 3]) ∧ Below w.heap.size w w' := by
  have hB := Below.refl w.heap.size w
  rcases hn with h | h
  · go_enter Try.func13, Try.ntmps13
    go_wp2
    all_goals
      go_ret2
      exact ⟨rfl, hB⟩
  · have h0 : ¬ n < 0 := by omega
    go_enter Try.func13, Try.ntmps13
    go_wp2
    all_goals
      go_ret2
      exact ⟨rfl, hB⟩
set_option maxRecDepth 100000 in
set_option maxHeartbeats 400000 in
theorem far_yes (n : Int) (h : 200 < n ∧ n ≤ 65536) (w : World) : Calls Try.prog 7 #[.int .i64 n] w fun e w' => e = .returned (.bool true) ∧ w' = w := by
  obtain ⟨h1, h2⟩ := h
  go_enter Try.func7, Try.ntmps7
  go_wp2
  go_ret
  exact ⟨rfl, rfl⟩
set_option maxRecDepth 100000 in
set_option maxHeartbeats 400000 in
theorem far_no (n : Int) (h : ¬ (200 < n ∧ n ≤ 65536)) (w : World) : Calls Try.prog 7 #[.int .i64 n] w fun e w' => e = .returned (.bool false) ∧ w' = w := by
  by_cases h1 : 200 < n
  · have h2 : ¬ n ≤ 65536 := fun h2 => h ⟨h1, h2⟩
    clear h
    go_enter Try.func7, Try.ntmps7
    go_wp2
    go_ret
    exact ⟨rfl, rfl⟩
  · clear h
    go_enter Try.func7, Try.ntmps7
    go_wp2
    go_ret
    exact ⟨rfl, rfl⟩
set_option maxRecDepth 100000 in
set_option maxHeartbeats 4000000 in
theorem btells_far (n k : Int) (h : 200 < n ∧ n ≤ 65536) (w : World) :
    Calls Try.prog 3 #[.int .i64 n, .int .i64 k] w fun e w' => e = .returned (.bool true) ∧ Below w.heap.size w w' := by
  have hf := far_yes n h w
  clear h
  go_enter Try.func3, Try.ntmps3
  go_wp2_with fail
  refine hf.mono ?_
  rintro e w1 ⟨rfl, rfl⟩
  go_wp2_with fail
  refine (bawake_any _).mono ?_
  rintro e w6 ⟨rfl, B6⟩
  go_wp2
  go_ret
  exact ⟨rfl, B6⟩
theorem same_nil (W : World) : Calls Try.prog 15 #[.slice none 0 0, .slice none 0 0] W fun e w' => e = .returned (.bool true) ∧ Below W.heap.size W w' :=
  same_yes (lo := 0) (lo' := 0) (a := none) (b := none) (ca := 0) (cb := 0) (xs := []) (Seg.nil 0 W) (Seg.nil 0 W) (Nat.zero_le _)
theorem over_nil (W : World) : Calls Try.prog 16 #[.slice none 0 0] W fun e w' => e = .returned (.tuple #[]) ∧ Below W.heap.size W w' := by
  have h := over_fr (lo := W.heap.size) (a := none) (cap := 0) (zs := []) (w := W) (Seg.nil W.heap.size W) (Nat.zero_le _) 0 (fun h => absurd rfl h)
  exact h.mono fun e w' ⟨h1, h2, _⟩ => ⟨h1, h2⟩
set_option maxRecDepth 100000 in
set_option maxHeartbeats 400000 in
theorem btells_no (n k : Int) (h : n < 0 ∨ 65536 < n) (w : World) :
    Calls Try.prog 3 #[.int .i64 n, .int .i64 k] w fun e w' => e = .returned (.bool true) ∧ Below w.heap.size w w' := by
  have hf := far_no n (by omega) w
  have c1 := fun W => choose_no n k h W
  have c2 := fun W => vchoose_no n k h W
  have c3 := fun W => falling_no n k (by omega) W
  have c4 := fun W => vfalling_no n k (by omega) W
  have c5 := fun W => row_no n (by omega) W
  have c6 := fun W => vRow_no n (by omega) W
  have sm : ∀ W : World, Calls Try.prog 15 #[.slice none 0 0, .slice none 0 0] W fun e w' => e = .returned (.bool true) ∧ Below W.heap.size W w' := same_nil
  have ov := over_nil
  have B := Below.refl w.heap.size w
  clear h
  go_enter Try.func3, Try.ntmps3
  go_wp2_with fail
  refine hf.mono ?_
  rintro e w1 ⟨rfl, rfl⟩
  go_wp2_with fail
  refine (c1 _).mono ?_
  rintro e w2 ⟨rfl, hb⟩
  replace B := B.trans (hb.mono B.size)
  go_wp2_with fail
  refine (c2 _).mono ?_
  rintro e w3 ⟨rfl, hb⟩
  replace B := B.trans (hb.mono B.size)
  go_wp2_with fail
  refine (c3 _).mono ?_
  rintro e w4 ⟨rfl, hb⟩
  replace B := B.trans (hb.mono B.size)
  go_wp2_with fail
  refine (c4 _).mono ?_
  rintro e w5 ⟨rfl, hb⟩
  replace B := B.trans (hb.mono B.size)
  go_wp2_with fail
  refine (c5 _).mono ?_
  rintro e w6 ⟨rfl, hb⟩
  replace B := B.trans (hb.mono B.size)
  go_wp2_with fail
  refine (c6 _).mono ?_
  rintro e w7 ⟨rfl, hb⟩
  replace B := B.trans (hb.mono B.size)
  go_wp2_with fail
  refine (sm _).mono ?_
  rintro e w8 ⟨rfl, hb⟩
  replace B := B.trans (hb.mono B.size)
  go_wp2_with fail
  refine (sm _).mono ?_
  rintro e w9 ⟨rfl, hb⟩
  replace B := B.trans (hb.mono B.size)
  go_wp2
  go_loopw [17, 18] (fun same cnt wr => same = .bool true ∧ cnt = .int .i64 0 ∧ Below w1.heap.size w1 wr) (fun _ _ _ => 0)
  case atStart => exact ⟨rfl, rfl, B⟩
  case round =>
    obtain ⟨rfl, rfl, B⟩ := hrel
    go_wp2_with fail
    refine (ov _).mono ?_
    rintro e w11 ⟨rfl, hb⟩
    replace B := B.trans (hb.mono B.size)
    go_wp2_with fail
    refine (ov _).mono ?_
    rintro e w12 ⟨rfl, hb⟩
    replace B := B.trans (hb.mono B.size)
    go_wp2_with fail
    refine (c1 _).mono ?_
    rintro e w13 ⟨rfl, hb⟩
    replace B := B.trans (hb.mono B.size)
    go_wp2_with fail
    refine (sm _).mono ?_
    rintro e w14 ⟨rfl, hb⟩
    replace B := B.trans (hb.mono B.size)
    go_wp2_with fail
    refine (bawake_any _).mono ?_
    rintro e w15 ⟨rfl, hb⟩
    replace B := B.trans (hb.mono B.size)
    go_wp2
    go_ret
    exact ⟨rfl, B⟩
def Overs (x : Nat) (vs : List Value) (W V : World) : Prop := W.heap.size ≤ V.heap.size ∧ ∀ b, b < W.heap.size → (∀ (y : Nat) u, y < x → vs[y]? = some u → u.ownBlock ≠ some b) → V.heap[b]? = W.heap[b]?
theorem Overs.zero (vs : List Value) (W : World) : Overs 0 vs W W := ⟨Nat.le_refl _, fun _ _ _ => rfl⟩
theorem Overs.below {x : Nat} {vs : List Value} {W V U : World} (h : Overs x vs W V) (hb : Below V.heap.size V U) : Overs x vs W U :=
  ⟨Nat.le_trans h.1 hb.size, fun b h1 h2 => (hb.block b (Nat.lt_of_lt_of_le h1 h.1)).trans (h.2 b h1 h2)⟩
theorem Overs.succ {x : Nat} {vs : List Value} {W V U : World} (h : Overs x vs W V) {b : Nat} {u : Value} (hu : vs[x]? = some u) (eb : u.ownBlock = some b) (hs : V.heap.size ≤ U.heap.size) (hlo : Below b V U) (hhi : ∀ k, b + 1 ≤ k → U.heap[k]? = V.heap[k]?) : Overs (x + 1) vs W U :=
  ⟨Nat.le_trans h.1 hs, fun c h1 h2 => by
    have hne : c ≠ b := fun e => h2 x u (by omega) hu (by rw [e]; exact eb)
    have hk : U.heap[c]? = V.heap[c]? := by
      rcases Nat.lt_or_ge c b with hc | hc
      · exact hlo.block c hc
      · exact hhi c (by omega)
    exact hk.trans (h.2 c h1 (fun y t hy => h2 y t (by omega)))⟩
set_option maxRecDepth 100000 in
set_option maxHeartbeats 4000000 in
theorem btells_yes (n : Nat) (hn : n ≤ 200) (k : Int) (w : World) :
    Calls Try.prog 3 #[.int .i64 n, .int .i64 k] w fun e w' => e = .returned (.bool true) ∧ Below w.heap.size w w' := by
  have hf := far_no (n : Int) (by omega) w
  go_enter Try.func3, Try.ntmps3
  go_wp2_with fail
  refine hf.mono ?_
  rintro e w0 ⟨rfl, hw0⟩
  obtain rfl : w = w0 := hw0.symm
  clear hf hw0
  go_wp2_with fail
  refine (choose_any n (by omega) k w).mono ?_
  rintro e w1 ⟨a1, c1, z1, rfl, S1, N1, V1, l1, B1⟩
  go_wp2_with fail
  refine (vchoose_any n (by omega) k w1).mono ?_
  rintro e w2 ⟨a2, c2, z2, rfl, S2, N2, V2, l2, B2⟩
  obtain rfl : z1 = z2 := norm_unique S1.words S2.words N1 N2 (by rw [V1.out, V2.out])
  have k2 := S2.block
  go_wp2_with fail
  refine (fall_all n (by omega) k w2).mono ?_
  rintro e w3 ⟨a3, c3, z3, rfl, S3, N3, V3, l3, B3⟩
  have k1 := S1.block
  have k3 := S3.block
  go_wp2_with fail
  refine (vfall_all n (by omega) k w3).mono ?_
  rintro e w4 ⟨a4, c4, z4, rfl, S4, N4, V4, l4, B4⟩
  obtain rfl : z3 = z4 := norm_unique S3.words S4.words N3 N4 (by rw [V3.out, V4.out])
  replace S1 := ((S1.below B2).below B3).below B4
  replace S2 := (S2.below B3).below B4
  replace S3 := S3.below B4
  have B04 := B1.trans (((B2.trans ((B3.trans (B4.mono B3.size)).mono B2.size))).mono B1.size)
  have e12 := B2.size
  have e23 := B3.size
  have e34 := B4.size
  have e01 := B1.size
  go_wp2_with fail
  refine (row_any n (by omega) w4).mono ?_
  rintro e w5 ⟨g, vs, rfl, hvl, R, NN, B5⟩
  go_wp2_with fail
  refine (vRow_any n (by omega) w5).mono ?_
  rintro e w6 ⟨g', cap', vs', rfl, hvl', R', NN', B6⟩
  have own5 : Hid (∀ (y : Nat) u, vs[y]? = some u → ∃ b, u.ownBlock = some b ∧ w4.heap.size ≤ b ∧ b < w5.heap.size) := fun y u hu => (NN.at_ y u hu).block
  have eg' := R'.lo_
  have eg := R.lt
  have egl := R.lo_
  replace R := R.below B6
  replace NN := NN.below B6
  have B46 := B5.trans (B6.mono B5.size)
  have hs1 := same_yes ((S1.below B5).below B6) ((S2.below B5).below B6) (by omega)
  have HV := hide hvl
  have HV' := hide hvl'
  clear hvl hvl'
  go_wp2_with fail
  refine hs1.mono ?_
  rintro e w7 ⟨rfl, B7⟩
  have hs2 := same_yes (((S3.below B5).below B6).below B7) (((S4.below B5).below B6).below B7) (by omega)
  clear hs1
  go_wp2_with fail
  refine hs2.mono ?_
  rintro e w8 ⟨rfl, B8⟩
  clear hs2
  have HR := hide ((R.below B7).below B8)
  have HR' := hide ((R'.below B7).below B8)
  have HN := hide ((NN.below B7).below B8)
  have HN' := hide ((NN'.below B7).below B8)
  have B68 := B7.trans (B8.mono B7.size)
  have B48 := B46.trans (B68.mono B46.size)
  clear R R' NN NN' B7 B8 B68 B46
  have e45 := B5.size
  have HV12 : Hid ((chI n k : Nat) = val z1) := V2.out.symm
  go_wp2
  go_loopw [17, 18] (fun same cnt wr => ∃ x : Nat, x ≤ n + 1 ∧ same = .bool true ∧ cnt = .int .i64 x ∧ Hid (Overs x vs w8 wr) ∧ Below w4.heap.size w4 wr) (fun _ c _ => n + 2 - (intOf c).toNat)
  case atStart => exact ⟨0, Nat.zero_le _, rfl, rfl, Overs.zero _ _, B48⟩
  case round =>
    obtain ⟨x, hx, rfl, rfl, HO, HB⟩ := hrel
    by_cases hxn : x < n + 1
    · have hxi : (x : Int) < (n : Int) + 1 := by omega
      obtain ⟨u, hu⟩ : ∃ u, vs[x]? = some u := ⟨_, List.getElem?_eq_getElem (by have := HV.out; omega)⟩
      obtain ⟨v, hv⟩ : ∃ v, vs'[x]? = some v := ⟨_, List.getElem?_eq_getElem (by have := HV'.out; omega)⟩
      have hkg : wr.heap[g]? = w8.heap[g]? := HO.out.2 g HR.out.lt (fun y t _ ht e => HN.out.off y t ht e)
      have hkg' : wr.heap[g']? = w8.heap[g']? := HO.out.2 g' HR'.out.lt (fun y t _ ht e => by
        obtain ⟨b, eb, _, h2⟩ := own5.out y t ht
        rw [eb] at e
        injection e with e
        omega)
      have hcl := (HR.out.keep hkg HO.out.1).cell _ _ hu
      have hcm := (HR'.out.keep hkg' HO.out.1).cell _ _ hv
      have hgl := (HR.out.keep hkg HO.out.1).lt
      have nu := (HN.out.at_ x u hu).keep (fun b eb _ h2 => HO.out.2 b h2 (fun y t hy ht e => HN.out.apart y x t u ht hu hy (by rw [e, eb]))) HO.out.1
      have nv := (HN'.out.at_ x v hv).keep (fun b eb h1 h2 => HO.out.2 b h2 (fun y t _ ht e => by
        obtain ⟨b', eb', _, h2'⟩ := own5.out y t ht
        rw [eb'] at e
        injection e with e
        omega)) HO.out.1
      obtain ⟨bu, ou, cu, zu, rfl, Su, Nu, Vu, lu, nzu, hlu, _⟩ := nu
      obtain ⟨bv, ov, cv, zv, rfl, Sv, Nv, Vv, lv, _⟩ := nv
      obtain rfl : zu = zv := norm_unique Su.words Sv.words Nu Nv (by rw [Vu.out, Vv.out])
      have hs := same_yes Su.drew Sv.drew (by omega)
      have hcl' : wr.drew.cell? ⟨g, 0 + x, none⟩ = _ := hcl
      have hcm' : wr.drew.cell? ⟨g', 0 + x, none⟩ = _ := hcm
      have HCL := hide hcl
      rw [Nat.zero_add] at hcl' hcm'
      have HU := hide hu
      clear hcl hcm hu hv hkg hkg' Vu Vv Nv lv
      go_wp2_with fail
      go_region_law (first
        | (go_simp
           go_at_call 15
           refine hs.mono ?_
           rintro e wA ⟨rfl, hbA⟩
           have BA : Below wr.heap.size wr wA := (Below.refl _ wr).drew.trans hbA
           clear hbA
           dsimp only))
      all_goals
        have HO2 := hide (HO.out.below BA)
        have HB2 := HB.trans (BA.mono HB.size)
        have hcA := (BA.cell (p := ⟨g, 0 + x, none⟩) hgl).trans HCL.out
        rw [Nat.zero_add] at hcA
        have SA := (Su.below BA).tight
        have hov := over_fr SA (by omega) (bu + 1) (fun _ b o e => by
          simp only [Option.some.injEq, Addr.mk.injEq] at e
          omega)
        clear HO hcl' hcm' HCL Su Sv hs BA
        go_wp2_with fail
        refine hov.mono ?_
        rintro e wB ⟨rfl, hlo, hhi⟩
        have HO3 := hide (HO2.out.succ HU.out rfl hlo.size hlo hhi)
        have HB3 := HB2.trans (hlo.mono hlu)
        clear hov hhi hcA
        go_wp2
        exact ⟨⟨x + 1, by omega, rfl, by go_num, HO3, HB3⟩, by simp [intOf]; omega⟩
    · obtain rfl : x = n + 1 := by omega
      have S1r := S1.below HB
      have S2r := S2.below HB
      have S3r := S3.below HB
      have BF := B04.trans (HB.mono B04.size)
      have ho1 := over_fr S1r (by omega) w1.heap.size k1
      clear HO
      go_wp2_with fail
      refine ho1.mono ?_
      rintro e wA ⟨rfl, hlo, hhi⟩
      have S2a := S2r.above hhi hlo.size
      have S3a := S3r.above (fun k hk => hhi k (by omega)) hlo.size
      have BA := BF.trans hlo
      have ho2 := over_fr S3a (by omega) w3.heap.size k3
      clear ho1 hhi hlo S2r S3r S1r
      go_wp2_with fail
      refine ho2.mono ?_
      rintro e wB ⟨rfl, hlo, hhi⟩
      have S2b := seg_row_keep S2a (fun hz b o e _ _ => hlo.block b (k2 hz b o e)) hlo.size
      have BB := BA.trans (hlo.mono (by omega))
      clear ho2 hhi hlo S2a S3a
      go_wp2_with fail
      refine (choose_any n (by omega) k wB).mono ?_
      rintro e wC ⟨a5, c5, z5, rfl, S5, N5, V5, l5, B5'⟩
      obtain rfl : z1 = z5 := norm_unique S2b.words S5.words N2 N5 (by rw [V5.out, HV12.out])
      have hs5 := same_yes S5 (S2b.below B5') (by omega)
      have BC := BB.trans (B5'.mono BB.size)
      go_wp2_with fail
      refine hs5.mono ?_
      rintro e wD ⟨rfl, hbD⟩
      have BD := BC.trans (hbD.mono BC.size)
      clear hs5
      go_wp2_with fail
      refine (bawake_any _).mono ?_
      rintro e wE ⟨rfl, hbE⟩
      have BE := BD.trans (hbE.mono BD.size)
      go_wp2
      go_ret
      exact ⟨rfl, BE⟩
theorem btells_any (n : Int) (hn : -9223372036854775808 ≤ n ∧ n ≤ 9223372036854775807) (k : Int) (_hk : -9223372036854775808 ≤ k ∧ k ≤ 9223372036854775807) (w : World) :
    Calls Try.prog 3 #[.int .i64 n, .int .i64 k] w fun e w' => e = .returned (.bool true) ∧ Below w.heap.size w w' := by
  by_cases h : 200 < n ∧ n ≤ 65536
  · exact btells_far n k h w
  · by_cases h2 : n < 0 ∨ 65536 < n
    · exact btells_no n k h2 w
    · obtain ⟨m, rfl⟩ : ∃ m : Nat, n = m := ⟨n.toNat, by omega⟩
      exact btells_yes m (by omega) k w
end Go.Proofs.Ytkehlclnljadjaa
