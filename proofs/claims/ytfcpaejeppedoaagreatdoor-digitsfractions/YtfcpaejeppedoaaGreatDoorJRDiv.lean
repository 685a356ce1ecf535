/-
  Joined: RDiv RGcd QWords FracQ DigP DigB DigS DPe DPf DPg DPa DPb.
-/
import Derived.Test.YtfcpaejeppedoaaGreatDoorRQuot
import Derived.Deep.CutRange
import Derived.Laws.MakeOwn
import Derived.Test.YtfcpaejeppedoaaGreatDoorJWiden
import Derived.Test.YtfcpaejeppedoaaGreatDoorKit
import Derived.Test.YtfcpaejeppedoaaGreatDoorJRefD
import Derived.Test.YtfcpaejeppedoaaGreatDoorJNum
import Derived.Laws.BytesArg
import Derived.Deep.LoopGhost
import Derived.Deep.RegionHeld3
import Derived.Test.YtfcpaejeppedoaaGreatDoorProd
import Derived.Test.YtfcpaejeppedoaaGreatDoorJSmall
import Derived.Laws.OwnMore
namespace Go.Proofs.YtfcpaejeppedoaaGreatDoor
open Go.RowKit
theorem blen_up (v : Int) (h : 0 ≤ v) : v < 2 ^ blen v := by
  obtain ⟨n, rfl⟩ := Int.eq_ofNat_of_zero_le h
  have : n < 2 ^ blen n := by
    unfold blen Go.bitLen
    rw [Int.toNat_natCast]
    split
    · rename_i h; rw [h]; decide
    · exact Nat.lt_log2_self
  have e : ((2 : Int) ^ blen n) = ((2 ^ blen n : Nat) : Int) := by simp
  rw [e]; omega
theorem blen_down (v : Int) (h : 0 < v) : 2 ^ (blen v - 1) ≤ v := by
  obtain ⟨n, rfl⟩ := Int.eq_ofNat_of_zero_le (Int.le_of_lt h)
  have : 2 ^ (blen n - 1) ≤ n := by
    unfold blen Go.bitLen
    rw [Int.toNat_natCast, if_neg (by omega), Nat.add_sub_cancel]
    exact Nat.log2_self_le (by omega)
  have e : ((2 : Int) ^ (blen n - 1)) = ((2 ^ (blen n - 1) : Nat) : Int) := by simp
  rw [e]; omega
theorem two_mono {m n : Nat} (h : m ≤ n) : (2 : Int) ^ m ≤ 2 ^ n := by
  obtain ⟨k, rfl⟩ := Nat.le.dest h
  rw [Int.pow_add]
  have := two_pos m
  have := two_pos k
  have : (2 : Int) ^ m * 1 ≤ 2 ^ m * 2 ^ k := Int.mul_le_mul_of_nonneg_left (by omega) (by omega)
  omega
theorem blen_less {a b : Int} (ha : 0 ≤ a) (hb : 0 < b) (h : blen a < blen b) : a < b := by
  have := blen_up a ha
  have := blen_down b hb
  have := two_mono (m := blen a) (n := blen b - 1) (by omega)
  omega
theorem start_less {a b : Int} {f : Nat} (ha : 0 ≤ a) (hb : 0 < b) (h1 : 1 ≤ blen b) (h : blen a = blen b + f) : 0 ≤ a / 2 ^ (f + 1) ∧ a / 2 ^ (f + 1) < b := by
  have p := two_pos (f + 1)
  refine ⟨Int.ediv_nonneg ha (by omega), ?_⟩
  have x := blen_up a ha
  have y := blen_down b hb
  have z : a / 2 ^ (f + 1) < 2 ^ (blen b - 1) := by
    refine Int.ediv_lt_of_lt_mul p ?_
    rw [← Int.pow_add, show blen b - 1 + (f + 1) = blen a by omega]; exact x
  omega
theorem or_bit (d : Int) (s : Nat) (hs : s < 64) (hd : 0 ≤ d ∧ d < 18446744073709551616) (c : Int) (e : d = 2 ^ (s + 1) * c) : bits .or .u64 d (IntKind.u64.wrap (2 ^ s)) = d + 2 ^ s ∧ (0 ≤ d + 2 ^ s ∧ d + 2 ^ s < 18446744073709551616) := by
  have hp := two_pos s
  have hps : (2 : Int) ^ (s + 1) = 2 * 2 ^ s := by rw [Int.pow_succ]; omega
  have hC := two_split (s + 1) (by omega)
  have p0 := two_pos (64 - (s + 1))
  have hle : d + 2 * 2 ^ s ≤ 18446744073709551616 := by
    have hc : c < 2 ^ (64 - (s + 1)) := Classical.byContradiction fun h => by
      have : (2 : Int) ^ (s + 1) * 2 ^ (64 - (s + 1)) ≤ 2 ^ (s + 1) * c := Int.mul_le_mul_of_nonneg_left (by omega) (by omega)
      rw [Int.mul_comm, hC] at this
      omega
    have : (2 : Int) ^ (s + 1) * (c + 1) ≤ 2 ^ (s + 1) * 2 ^ (64 - (s + 1)) := Int.mul_le_mul_of_nonneg_left (by omega) (by omega)
    rw [Int.mul_comm (2 ^ (s + 1)) (2 ^ (64 - (s + 1))), hC, Int.mul_add, ← e, Int.mul_one, hps] at this
    exact this
  have hc0 : 0 ≤ c := Classical.byContradiction fun h => by
    have : (2 : Int) ^ (s + 1) * (c + 1) ≤ 2 ^ (s + 1) * 0 := Int.mul_le_mul_of_nonneg_left (by omega) (by omega)
    rw [Int.mul_add, ← e] at this
    omega
  obtain ⟨n, rfl⟩ := Int.eq_ofNat_of_zero_le hd.1
  obtain ⟨m, rfl⟩ := Int.eq_ofNat_of_zero_le hc0
  have h2 : ((2 : Int) ^ s) = ((2 ^ s : Nat) : Int) := by simp
  have h3 : ((2 : Int) ^ (s + 1)) = ((2 ^ (s + 1) : Nat) : Int) := by simp
  have en : n = m * 2 ^ (s + 1) := by rw [h3, ← Int.natCast_mul] at e; rw [Nat.mul_comm]; omega
  rw [h2] at hle hp ⊢
  refine ⟨?_, by omega⟩
  rw [IntKind.wrap_u64, Int.emod_eq_of_lt (by omega) (by omega), bits_or_u64_nat n (2 ^ s) (by omega) (by omega), Nat.or_comm]
  have ol := or_low (2 ^ s) m (s + 1) (Nat.pow_lt_pow_right (by decide) (by omega))
  rw [← en] at ol
  rw [ol]; omega
theorem set_bit {qs : List Int} {Q : Int} {p s : Nat} (hw : Words qs) (hp : p < qs.length) (hs : s < 64) (e : val qs = Q * 2 ^ (64 * p + s + 1)) : (∃ c, qs[p]?.getD 0 = 2 ^ (s + 1) * c) ∧ val (qs.set p (qs[p]?.getD 0 + 2 ^ s)) = (2 * Q + 1) * 2 ^ (64 * p + s) := by
  have a := val_drop_div hw p
  rw [val_drop qs p, e, show 64 * p + s + 1 = 64 * p + (s + 1) by omega, ← pw_bits p (s + 1), Int.mul_left_comm, Int.mul_ediv_cancel_left _ (by have := pw_pos p; omega)] at a
  have b := val_set hp (qs[p]?.getD 0 + 2 ^ s)
  rw [show qs[p]?.getD 0 + 2 ^ s - qs[p]?.getD 0 = (2 : Int) ^ s by omega, pw_bits p s, e, Int.pow_succ] at b
  refine ⟨⟨Q - 2 ^ (64 - (s + 1)) * val (qs.drop (p + 1)), ?_⟩, ?_⟩
  · rw [← two_split (s + 1) (by omega)] at a
    rw [Int.mul_sub, Int.mul_comm _ Q, ← a, ← Int.mul_assoc, Int.mul_comm (2 ^ (s + 1)) (2 ^ (64 - (s + 1)))]
    omega
  · rw [b, Int.add_mul, Int.one_mul, Int.mul_comm 2 Q, Int.mul_assoc, Int.mul_comm 2 (2 ^ (64 * p + s))]
theorem len_below {zs : List Int} {m : Nat} (hw : Words zs) (hn : Norm zs) (h : val zs < pw m) : zs.length ≤ m := by
  by_cases e : zs = []
  · subst e; simp
  · have a := norm_val hw hn e
    rcases Nat.lt_or_ge m zs.length with h1 | h1
    · have := pw_mono (m := m) (n := zs.length - 1) (by omega)
      omega
    · exact h1
theorem div_next {A B Q R : Int} {u : Nat} (e : A / 2 ^ (u + 1) = B * Q + R) : A / 2 ^ u = B * (2 * Q) + (2 * R + A / 2 ^ u % 2) := by
  have h : A / 2 ^ (u + 1) = A / 2 ^ u / 2 := by rw [Int.pow_succ, ← Int.ediv_ediv_of_nonneg (Int.le_of_lt (two_pos u))]
  rw [h] at e
  rw [Int.mul_left_comm B 2 Q]
  omega
theorem words_zeros_lit (n : Nat) (w : World) : Seg w.heap.size (w.alloc (.cells (madeCells (Value.int .u64 0).cells (n * 1)) 42)) (.slice (some ⟨w.heap.size, 0, none⟩) n n) (List.replicate n 0) := by
  have hh : (w.alloc (.cells (madeCells (Value.int .u64 0).cells (n * 1)) 42)).heap[w.heap.size]? = some (.cells (madeCells (Value.int .u64 0).cells (n * 1)) 42 (0, 0)) := World.alloc_heap_new w _
  have hl : (List.replicate n (0 : Int)).length = n := List.length_replicate
  refine ⟨Words.zeros n, _, _, by rw [hl], by rw [hl]; exact Nat.le_refl _, fun _ => ⟨_, 0, rfl, Nat.le_refl _, by simp, fun j hj => ?_, fun j _ => frozen_of_heap hh _⟩⟩
  rw [hl] at hj
  rw [cell_of_heap hh, Nat.zero_add]
  simp [madeCells, Value.cells, Nat.mod_one, hj]
theorem make_any (n : Nat) (hn : n ≤ 100000) : ∃ Z : Obj, (∀ w : World, (Instr.makeSlice 23 (.int .i64 n) (.int .i64 n)).run Tryz.prog w = .ok (.slice (some ⟨w.heap.size, 0, none⟩) n n) (w.alloc Z)) ∧ (∀ w : World, Seg w.heap.size (w.alloc Z) (.slice (some ⟨w.heap.size, 0, none⟩) n n) (List.replicate n 0)) := by
  obtain ⟨i0, hi, hz0, hz1, hz2⟩ := info_parts infoU64
  refine ⟨.cells (madeCells (Value.int .u64 0).cells (n * 1)) 42, fun w => ?_, words_zeros_lit n⟩
  have := run_make (P := Tryz.prog) w 23 42 i0 (.int .u64 0) Tryz.underlying23 hi hz0 .i64 .i64 n n (by omega) (Int.le_refl _) (by rw [hz2]; omega) (by omega)
  rw [Int.toNat_natCast, hz1] at this
  exact this
set_option maxRecDepth 100000 in
set_option maxHeartbeats 4000000 in
theorem rdiv_long {lo lo' : Nat} {a b : Option Addr} {ca cb : Nat} {xs ys : List Int} {w : World} (ha : Seg lo w (.slice a xs.length ca) xs) (hb : Seg lo' w (.slice b ys.length cb) ys) (hla : xs.length ≤ 4000) (hlb : ys.length ≤ 4000) (hB : 0 < val ys) (f : Nat) (hf : blen (val xs) = blen (val ys) + f) (hf4 : blen (val xs) ≤ 64 * xs.length) :
    Calls Tryz.prog 66 #[.slice a xs.length ca, .slice b ys.length cb] w fun e w' => ∃ (a1 a2 : Option Addr) (c1 c2 : Nat) (qs rs : List Int), e = .returned (.tuple #[.slice a1 qs.length c1, .slice a2 rs.length c2, .int .i64 0]) ∧ Seg w.heap.size w' (.slice a1 qs.length c1) qs ∧ Seg w.heap.size w' (.slice a2 rs.length c2) rs ∧ Norm qs ∧ Norm rs ∧ val qs = val xs / val ys ∧ val rs = val xs % val ys ∧ qs.length ≤ xs.length ∧ rs.length ≤ ys.length + 1 ∧ Below w.heap.size w w' := by
  have hA := val_nonneg ha.words
  have hwx := ha.words
  have hbp := blen_pos hB
  obtain ⟨st0, st1⟩ := start_less hA hB hbp hf
  have ht := rtrim_any hb (by omega)
  obtain ⟨bl, hbl⟩ : ∃ bl, blen (val ys) = bl := ⟨_, rfl⟩
  have hlA := fun (W : World) (hW : Below w.heap.size w W) => rlen_any (ha.below hW) (by omega)
  rw [hf, hbl] at hlA
  have hbl4 : bl + f ≤ 256000 := by omega
  have hfn : f < 64 * xs.length := by omega
  have hsub : (bl : Int) + (f : Int) - (bl : Int) = (f : Int) := by omega
  have HBL := hide hbl
  have HST : Hid (0 ≤ val xs / 2 ^ (f + 1) ∧ val xs / 2 ^ (f + 1) < val ys) := ⟨st0, st1⟩
  have HA := hide hA
  have HB := hide hB
  obtain ⟨n, hn⟩ : ∃ n, xs.length = n := ⟨_, rfl⟩
  have HN := hide hn
  obtain ⟨Z1, mk1, sg1⟩ := make_any xs.length (by omega)
  rw [hn] at ha hla hlA hfn mk1 sg1 ⊢
  clear hn hf hf4 hbl st0 st1 hA hB hbp
  have hf0 : ¬ ((f : Int) < 0) := by omega
  go_enter Tryz.func66, Tryz.ntmps66
  go_wp2_with fail
  refine ht.mono ?_
  rintro e w1 ⟨a1, c1, ts, rfl, hs1, hn1, hv1, hl1, hb1⟩
  have HV1 := hide hv1
  have hwt := hs1.words
  have hlB := rlen_any hs1 (by omega)
  rw [hv1, HBL.out] at hlB
  have hne : ts ≠ [] := fun e => by
    have := HB.out
    rw [e, val_nil] at hv1
    omega
  have hm0 : 0 < ts.length := List.length_pos_iff.2 hne
  obtain ⟨Z2, mk2, sg2⟩ := make_any (ts.length + 1) (by omega)
  obtain ⟨m, hm⟩ : ∃ m, ts.length = m := ⟨_, rfl⟩
  have HM := hide hm
  rw [hm] at hs1 hlB hm0 mk2 sg2 hl1 ⊢
  rw [show ((m + 1 : Nat) : Int) = (m : Int) + 1 from rfl] at mk2
  have hmz : ((m : Int) == 0) = false := beq_eq_false_iff_ne.2 (by omega)
  clear hv1 hne hm ht
  go_wp2_with fail
  refine (hlA w1 hb1).mono ?_
  rintro e w2 ⟨rfl, hb2⟩
  clear hlA
  have hs2 := hs1.below hb2
  have hlB' := rlen_any (zs := ts) (a := a1) (cap := c1) (by rw [HM.out]; exact hs2) (by rw [HM.out]; omega)
  rw [HM.out, HV1.out, HBL.out] at hlB'
  clear hlB
  go_wp2_with fail
  refine hlB'.mono ?_
  rintro e w3 ⟨rfl, hb3⟩
  have hs3 := hs2.below hb3
  have hb13 : Below w1.heap.size w1 w3 := hb2.trans (hb3.mono hb2.size)
  have hbw3 : Below w.heap.size w w3 := hb1.trans (hb13.mono hb1.size)
  have ha3 := ha.below hbw3
  clear hlB' hs1 hs2 hb1 hb2 hb3 hb13 hb
  go_wp2_with fail
  go_cut [8, 9] from 27 (fun v8 v9 wx => ∃ (bq br : Nat), v8 = .slice (some ⟨bq, 0, none⟩) n n ∧ v9 = .slice (some ⟨br, 0, none⟩) (m + 1) (m + 1) ∧ Seg w3.heap.size wx (.slice (some ⟨bq, 0, none⟩) n n) (List.replicate n 0) ∧ Seg w3.heap.size wx (.slice (some ⟨br, 0, none⟩) (m + 1) (m + 1)) (List.replicate (m + 1) 0) ∧ bq ≠ br ∧ w3.heap.size ≤ bq ∧ w3.heap.size ≤ br ∧ Below w3.heap.size w3 wx)
  case first =>
    have hB1 : ∀ X Y : Obj, Below w3.heap.size w3 ((w3.alloc X).alloc Y).drew := fun X Y => (((Below.refl _ w3).alloc (Nat.le_refl _) _).alloc (by simp) _).drew
    have q1 : Seg w3.heap.size ((w3.alloc Z1).alloc Z2).drew (.slice (some ⟨w3.heap.size, 0, none⟩) n n) (List.replicate n 0) := (sg1 w3).below ((Below.refl _ (w3.alloc Z1)).alloc (Nat.le_refl _) Z2).drew
    have r1 : Seg w3.heap.size ((w3.alloc Z2).alloc Z1).drew (.slice (some ⟨w3.heap.size, 0, none⟩) (m + 1) (m + 1)) (List.replicate (m + 1) 0) := (sg2 w3).below ((Below.refl _ (w3.alloc Z2)).alloc (Nat.le_refl _) Z1).drew
    have q2 := sg1 (w3.alloc Z2)
    have r2 := sg2 (w3.alloc Z1)
    rw [World.size_alloc] at q2 r2
    go_region
    · go_wp2_with fail
      go_meet
      case rel => exact ⟨_, _, rfl, rfl, q1, r2.mono (by omega), by omega, by omega, by omega, hB1 _ _⟩
    · go_wp2_with fail
      go_meet
      case rel => exact ⟨_, _, rfl, rfl, q2.mono (by omega), r1, by omega, by omega, by omega, hB1 _ _⟩
  case rest =>
    obtain ⟨bq, br, rfl, rfl, hq, hr, hqr, hq3, hr3, hbc⟩ := hcut
    clear mk1 mk2 sg1 sg2
    have hdn := rdown_yes (xs := xs) (a := a) (cap := ca) (w := wc) (by rw [HN.out]; exact ha3.below hbc) (by rw [HN.out]; omega) (f + 1) (by omega)
    rw [HN.out, show ((f + 1 : Nat) : Int) = (f : Int) + 1 from rfl] at hdn
    go_wp2_with fail
    refine hdn.mono ?_
    rintro e w5 ⟨a5, c5, us, rfl, hs5, hn5, hv5, hl5, hb5⟩
    have husl : us.length ≤ m := len_below hs5.words hn5 (by
      have := val_lt hwt
      rw [HV1.out, HM.out] at this
      rw [hv5]; have := HST.out; omega)
    have hq5 := hq.below hb5
    have hr5 := hr.below hb5
    have hbc5 := hbc.trans (hb5.mono hbc.size)
    obtain ⟨w6, hcp, hs6, ht6⟩ := seg_copy2 hr5 hs5 (by omega) (by omega)
    have hq6 := hq5.turns ht6 hqr
    have hbc6 : Below w3.heap.size w3 w6 := hbc5.trans (ht6.below.mono hr3)
    have HV6 : Hid (val (us ++ (List.replicate (m + 1) 0).drop us.length) = val xs / 2 ^ (f + 1)) := by
      rw [Hid, List.drop_replicate, val_append, val_zeros, hv5]; omega
    clear hdn hv5 hq hr hq5 hr5 hs5 hn5 hl5 hb5
    go_wp2_with (at_builtin; refine Lib.wpList_copy_run _ rfl _ _ 23 23 rfl _ _ rfl rfl hcp ?_)
    clear hcp
    go_loopw [12] (fun i wr => ∃ (t : Nat) (qs rs : List Int), t ≤ f + 1 ∧ i = .int .i64 ((t : Int) - 1) ∧ Seg w3.heap.size wr (.slice (some ⟨bq, 0, none⟩) n n) qs ∧ Seg w3.heap.size wr (.slice (some ⟨br, 0, none⟩) (m + 1) (m + 1)) rs ∧ Hid (∃ Q, 0 ≤ Q ∧ val xs / 2 ^ t = val ys * Q + val rs ∧ val rs < val ys ∧ val qs = Q * 2 ^ t) ∧ Below w3.heap.size w3 wr) (fun i _ => (intOf i + 1).toNat)
    case atStart =>
      refine ⟨f + 1, _, _, Nat.le_refl _, ?_, hq6, hs6, ⟨0, Int.le_refl _, ?_, ?_, ?_⟩, hbc6⟩
      · congr 1; omega
      · rw [HV6.out]; omega
      · rw [HV6.out]; exact HST.out.2
      · rw [val_zeros]; omega
    case round =>
      obtain ⟨t, qs, rs, ht, rfl, hq, hr, HI, hbr⟩ := hrel
      by_cases ht0 : t = 0
      · subst ht0
        rw [show (((0 : Nat) : Int) - 1) = -1 by omega]
        have HQ := hide hq.len.1
        have HR := hide hr.len.1
        have tq := rtrim_any (zs := qs) (a := some ⟨bq, 0, none⟩) (cap := n) (w := wr) (by rw [← HQ.out]; exact hq) (by rw [← HQ.out]; omega)
        have HF : Hid (val qs = val xs / val ys ∧ val rs = val xs % val ys) := by
          obtain ⟨Q, h1, h2, h3, h4⟩ := HI.out
          have h0 := val_nonneg hr.words
          have hB := HB.out
          rw [Int.pow_zero, Int.ediv_one] at h2
          rw [Int.pow_zero, Int.mul_one] at h4
          have := (Int.ediv_emod_unique (a := val xs) (r := val rs) (q := Q) hB).2 ⟨by omega, h0, h3⟩
          exact ⟨by rw [h4, this.1], this.2.symm⟩
        rw [HF.out.1, ← HQ.out] at tq
        go_wp2_with fail
        refine tq.mono ?_
        rintro e w7 ⟨a7, c7, q7, rfl, hs7, hn7, hv7, hl7, hb7⟩
        have HV7 := hide hv7
        have tr := rtrim_any (zs := rs) (a := some ⟨br, 0, none⟩) (cap := m + 1) (w := w7) (by rw [← HR.out]; exact hr.below hb7) (by rw [← HR.out]; omega)
        rw [HF.out.2, ← HR.out] at tr
        clear tq hv7
        go_wp2_with fail
        refine tr.mono ?_
        rintro e w8 ⟨a8, c8, r8, rfl, hs8, hn8, hv8, hl8, hb8⟩
        have HV8 := hide hv8
        have hb37 := hbr.trans (hb7.mono hbr.size)
        have hbw7 := hbw3.trans (hb37.mono hbw3.size)
        clear tr hv8
        go_wp2
        go_ret3
        exact ⟨_, _, _, _, q7, r8, rfl, (hs7.below hb8).mono (Nat.le_trans hbw3.size hbr.size), hs8.mono hbw7.size, hn7, hn8, HV7.out, HV8.out, hl7, by omega, hbw7.trans (hb8.mono hbw7.size)⟩
      · obtain ⟨p, s, hs, rfl⟩ : ∃ p s, s < 64 ∧ t = 64 * p + s + 1 := ⟨(t - 1) / 64, (t - 1) % 64, by omega, by omega⟩
        have hi : (((64 * p + s + 1 : Nat) : Int) - 1) = ((64 * p + s : Nat) : Int) := by omega
        rw [hi]
        clear hi ht0
        have hbit := rbit_any (xs := xs) (a := a) (ca := ca) (w := wr) (by rw [HN.out]; exact ha3.below hbr) (by rw [HN.out]; omega) (64 * p + s) (by omega)
        rw [HN.out] at hbit
        obtain ⟨bt, hbt⟩ : ∃ bt, decide (val xs / 2 ^ (64 * p + s) % 2 = 1) = bt := ⟨_, rfl⟩
        rw [hbt] at hbit
        have HBT : Hid ((bt.toNat : Int) = val xs / 2 ^ (64 * p + s) % 2) := by
          rw [Hid, ← hbt]
          rcases Int.emod_two_eq (val xs / 2 ^ (64 * p + s)) with h | h <;> rw [h] <;> rfl
        clear hbt
        have htw := rtwice_any hr (by omega) bt (by
          obtain ⟨Q, _, _, h3, _⟩ := HI.out
          have a1 := val_lt hwt
          have a2 := pw_pos m
          rw [HV1.out, HM.out] at a1
          rw [pw_succ]; omega)
        rw [show ((64 * p + s : Nat) : Int) = 64 * (p : Int) + (s : Int) by omega] at hbit ⊢
        have hq1 : (64 * (p : Int) + (s : Int)) / 64 = p := by omega
        have hq2 : (64 * (p : Int) + (s : Int)) % 64 = s := by omega
        go_wp2_with fail
        refine hbit.mono ?_
        rintro e w6 ⟨rfl, rfl⟩
        go_wp2_with fail
        refine htw.mono ?_
        rintro e w7 ⟨rs', rfl, hr7, hv7, ht7⟩
        have hq7 := hq.turns ht7 hqr
        have hb7 : Below w3.heap.size w3 w7 := hbr.trans (ht7.below.mono hr3)
        have hs7 := hs3.below hb7
        have HR7 := hide hr7.len.1
        have hcm := rcmp_any (xs := rs') (ys := ts) (a := some ⟨br, 0, none⟩) (ca := m + 1) (b := a1) (cb := c1) (w := w7) (by rw [← HR7.out]; exact hr7) (by rw [HM.out]; exact hs7) (by rw [← HR7.out]; omega) (by rw [HM.out]; omega)
        rw [HV1.out, HM.out, ← HR7.out] at hcm
        have HV7 := hide hv7
        clear htw hbit hv7
        by_cases hge : val ys ≤ val rs'
        · have hcg : 0 ≤ cmpI (val rs') (val ys) := by
            unfold cmpI
            rw [if_neg (by omega)]
            split <;> decide
          have hls := rless_any (ys := ts) (bb := a1) (cb := c1) hr7 (by rw [HM.out]; exact hs7) (by omega) (by rw [HM.out]; omega) (by omega) (by rw [HV1.out]; exact hge)
          rw [HM.out, HV1.out] at hls
          have HGE := hide hge
          clear hge
          go_wp2_with fail
          refine hcm.mono ?_
          rintro e w8 ⟨rfl, rfl⟩
          go_wp2_with fail
          refine hls.mono ?_
          rintro e w9 ⟨rs9, rfl, hr9, hv9, ht9⟩
          have hq9 := hq7.turns ht9 hqr
          have hb9 : Below w3.heap.size w3 w9 := hb7.trans (ht9.below.mono hr3)
          have HQ9 := hide hq9.len.1
          have hpn : p < n := by omega
          obtain ⟨hce, hfr⟩ := hq9.cell (j := p) hpn
          rw [Nat.zero_add] at hce hfr
          have hwq := hq9.words.getD p
          obtain ⟨Q, g1, g2, g3, g4⟩ := HI.out
          obtain ⟨⟨cc, hcc⟩, hset⟩ := set_bit hq9.words (by rw [← HQ9.out]; exact hpn) hs g4
          obtain ⟨eo, hwd⟩ := or_bit _ s hs hwq cc hcc
          have HS := hide (hq9.set (k := p) (by rw [← HQ9.out]; exact hpn) hwd)
          rw [Nat.zero_add, ← eo] at HS
          rw [← eo] at hset
          have hnx := div_next g2
          have HI' : Hid (∃ Q', 0 ≤ Q' ∧ val xs / 2 ^ (64 * p + s) = val ys * Q' + val rs9 ∧ val rs9 < val ys ∧ val (qs.set p (bits .or .u64 (qs[p]?.getD 0) (IntKind.u64.wrap (2 ^ s)))) = Q' * 2 ^ (64 * p + s)) := by
            have := HBT.out
            have v7 := HV7.out
            refine ⟨2 * Q + 1, by omega, ?_, ?_, hset⟩
            · rw [hnx, hv9, v7, Int.mul_add]; omega
            · rw [hv9, v7]; omega
          have HV9 := hide hv9
          have hr9' : Seg w3.heap.size (w9.setCell ⟨bq, p, none⟩ (.int .u64 (bits .or .u64 (qs[p]?.getD 0) (IntKind.u64.wrap (2 ^ s))))) (.slice (some ⟨br, 0, none⟩) (m + 1) (m + 1)) rs9 := hr9.turns ((Turns.refl bq w9).setCell _ _) (Ne.symm hqr)
          have hpi : (p : Int) < (n : Int) := by omega
          clear hls hcm hv9 g1 g2 g3 g4 hcc hset eo hwd hnx hq hr hq7 hr7
          generalize qs[p]?.getD 0 = d at *
          go_wp2
          exact ⟨⟨64 * p + s, _, _, by omega, by congr 1, HS.out, hr9', HI', hb9.setCell (p := ⟨bq, p, none⟩) hq3 _⟩, by simp [intOf]; omega⟩
        · have hcl : ¬ 0 ≤ cmpI (val rs') (val ys) := by rw [cmpI_lt (by omega)]; decide
          have HGE : Hid (val rs' < val ys) := by rw [Hid]; omega
          have HI' : Hid (∃ Q', 0 ≤ Q' ∧ val xs / 2 ^ (64 * p + s) = val ys * Q' + val rs' ∧ val rs' < val ys ∧ val qs = Q' * 2 ^ (64 * p + s)) := by
            obtain ⟨Q, g1, g2, g3, g4⟩ := HI.out
            have hnx := div_next g2
            have := HBT.out
            refine ⟨2 * Q, by omega, ?_, HGE.out, ?_⟩
            · rw [hnx, HV7.out, this]
            · rw [g4, Int.pow_succ, Int.mul_comm 2 Q, Int.mul_assoc, Int.mul_comm 2]
          clear hge
          go_wp2_with fail
          refine hcm.mono ?_
          rintro e w8 ⟨rfl, rfl⟩
          clear hcm
          go_wp2
          exact ⟨⟨64 * p + s, _, _, by omega, by congr 1, hq7, hr7, HI', hb7⟩, by simp [intOf]; omega⟩
set_option maxRecDepth 100000 in
set_option maxHeartbeats 1000000 in
theorem rdiv_short {lo lo' : Nat} {a b : Option Addr} {ca cb : Nat} {xs ys : List Int} {w : World} (ha : Seg lo w (.slice a xs.length ca) xs) (hb : Seg lo' w (.slice b ys.length cb) ys) (hla : xs.length ≤ 4000) (hlb : ys.length ≤ 4000) (hB : 0 < val ys) (hf : blen (val xs) < blen (val ys)) (hf4 : blen (val ys) ≤ 256000) :
    Calls Tryz.prog 66 #[.slice a xs.length ca, .slice b ys.length cb] w fun e w' => ∃ (a1 a2 : Option Addr) (c1 c2 : Nat) (qs rs : List Int), e = .returned (.tuple #[.slice a1 qs.length c1, .slice a2 rs.length c2, .int .i64 0]) ∧ Seg w.heap.size w' (.slice a1 qs.length c1) qs ∧ Seg w.heap.size w' (.slice a2 rs.length c2) rs ∧ Norm qs ∧ Norm rs ∧ val qs = val xs / val ys ∧ val rs = val xs % val ys ∧ qs.length ≤ xs.length ∧ rs.length ≤ ys.length + 1 ∧ Below w.heap.size w w' := by
  have hA := val_nonneg ha.words
  have hlt := blen_less hA hB hf
  have ht := rtrim_any hb (by omega)
  have HD : Hid (val xs / val ys = 0 ∧ val xs % val ys = val xs) := ⟨Int.ediv_eq_zero_of_lt hA hlt, Int.emod_eq_of_lt hA hlt⟩
  have hwy := hb.words
  obtain ⟨bx, hbx⟩ : ∃ bx, blen (val xs) = bx := ⟨_, rfl⟩
  obtain ⟨bl, hbl⟩ : ∃ bl, blen (val ys) = bl := ⟨_, rfl⟩
  rw [hbx, hbl] at hf
  rw [hbl] at hf4
  have HX : Hid (blen (val xs) = bx ∧ blen (val ys) = bl) := ⟨hbx, hbl⟩
  have HLT := hide hlt
  have HB := hide hB
  clear hbx hbl hlt hA hB
  have hlen : Hid (∀ zs : List Int, Words zs → Norm zs → val zs = val xs → zs.length ≤ ys.length + 1) := fun zs hw hn e => by
    have := len_below hw hn (m := ys.length) (by have := val_lt hwy; have := HLT.out; omega)
    omega
  go_enter Tryz.func66, Tryz.ntmps66
  go_wp2_with fail
  refine ht.mono ?_
  rintro e w1 ⟨a1, c1, ts, rfl, hs1, hn1, hv1, hl1, hb1⟩
  have hne : ts ≠ [] := fun e => by
    have := HB.out
    rw [e, val_nil] at hv1
    omega
  have hmz : ((ts.length : Int) == 0) = false := beq_eq_false_iff_ne.2 (by have := List.length_pos_iff.2 hne; omega)
  have HV1 := hide hv1
  have hlA := rlen_any (ha.below hb1) (by omega)
  rw [HX.out.1] at hlA
  clear hv1 hne ht
  go_wp2_with fail
  refine hlA.mono ?_
  rintro e w2 ⟨rfl, hb2⟩
  have hlB := rlen_any (hs1.below hb2) (by omega)
  rw [HV1.out, HX.out.2] at hlB
  clear hlA
  have hb12 := hb1.trans (hb2.mono hb1.size)
  go_wp2_with fail
  refine hlB.mono ?_
  rintro e w3 ⟨rfl, hb3⟩
  have hb13 := hb12.trans (hb3.mono hb12.size)
  have htr := rtrim_any (ha.below hb13) (by omega)
  have hneg : ((bx : Int) - (bl : Int)) < 0 := by omega
  clear hlB
  go_wp2_with fail
  refine htr.mono ?_
  rintro e w4 ⟨a4, c4, zs, rfl, hs4, hn4, hv4, hl4, hb4⟩
  have HV4 := hide hv4
  clear hv4 htr
  go_wp2
  go_ret3
  exact ⟨none, _, 0, _, [], zs, rfl, Seg.nil _ _, hs4.mono hb13.size, norm_nil, hn4, HD.out.1.symm, by rw [HV4.out, HD.out.2], Nat.zero_le _, hlen.out zs hs4.words hn4 HV4.out, hb13.trans (hb4.mono hb13.size)⟩
theorem blen_words_up {zs : List Int} (hw : Words zs) : blen (val zs) ≤ 64 * zs.length := by
  obtain ⟨k, hk, hnk, hvk⟩ := norm_upto (zs := zs) zs.length (Nat.le_refl _) (fun j h1 h2 => by omega)
  have := (blen_len (hw.take k) hnk).2
  rw [hvk, List.length_take] at this
  omega
theorem rdiv_yes {lo lo' : Nat} {a b : Option Addr} {la lb ca cb : Nat} {xs ys : List Int} {w : World} (ha : Seg lo w (.slice a la ca) xs) (hb : Seg lo' w (.slice b lb cb) ys) (hla : xs.length ≤ 4000) (hlb : ys.length ≤ 4000) (hB : 0 < val ys) :
    Calls Tryz.prog 66 #[.slice a la ca, .slice b lb cb] w fun e w' => ∃ (a1 a2 : Option Addr) (c1 c2 : Nat) (qs rs : List Int), e = .returned (.tuple #[.slice a1 qs.length c1, .slice a2 rs.length c2, .int .i64 0]) ∧ Seg w.heap.size w' (.slice a1 qs.length c1) qs ∧ Seg w.heap.size w' (.slice a2 rs.length c2) rs ∧ Norm qs ∧ Norm rs ∧ val qs = val xs / val ys ∧ val rs = val xs % val ys ∧ qs.length ≤ xs.length ∧ rs.length ≤ ys.length + 1 ∧ Below w.heap.size w w' := by
  obtain ⟨rfl, _⟩ := ha.len
  obtain ⟨rfl, _⟩ := hb.len
  have hx := blen_words_up ha.words
  have hy := blen_words_up hb.words
  rcases Nat.lt_or_ge (blen (val xs)) (blen (val ys)) with h | h
  · exact rdiv_short ha hb hla hlb hB h (by omega)
  · exact rdiv_long ha hb hla hlb hB (blen (val xs) - blen (val ys)) (by omega) hx
def cellsOf (W : World) : Value → List Int
  | .slice (some a) len _ => (List.range len).map fun j => intOf ((W.cell? ⟨a.block, a.off + j, none⟩).getD (.int .u64 0))
  | _ => []
theorem Seg.cells {lo : Nat} {W : World} {a : Option Addr} {len cap : Nat} {zs : List Int} (h : Seg lo W (.slice a len cap) zs) : cellsOf W (.slice a len cap) = zs := by
  obtain ⟨hl, _⟩ := h.len
  by_cases h0 : len = 0
  · have hz : zs = [] := List.length_eq_zero_iff.1 (by omega)
    rw [hz, h0]
    cases a <;> rfl
  · obtain ⟨b, off, rfl, _, _⟩ := h.row (by omega)
    apply List.ext_getElem
    · simp [cellsOf, hl]
    · intro j h1 h2
      have := (h.cell (j := j) (by omega)).1
      simp [cellsOf, this, intOf, h2]
set_option maxRecDepth 100000 in
set_option maxHeartbeats 1000000 in
theorem rpart_yes {lo : Nat} {a : Option Addr} {la ca : Nat} {xs : List Int} {w : World} (ha : Seg lo w (.slice a la ca) xs) (hla : xs.length ≤ 4000) (x : Int) (hx : 0 < x ∧ x < 18446744073709551616) :
    Calls Tryz.prog 43 #[.slice a la ca, .int .u64 x] w fun e w' => ∃ (a1 : Option Addr) (c1 : Nat) (qs : List Int), e = .returned (.tuple #[.slice a1 qs.length c1, .int .u64 (val xs % x), .int .i64 0]) ∧ Seg w.heap.size w' (.slice a1 qs.length c1) qs ∧ Norm qs ∧ val qs = val xs / x ∧ qs.length ≤ xs.length ∧ Below w.heap.size w w' := by
  have hs : Seg w.heap.size (w.alloc (.cells #[.int .u64 x] 42)) (.slice (some ⟨w.heap.size, 0, none⟩) 1 1) [x] := by
    refine ⟨Words.cons ⟨by omega, by omega⟩ Words.nil, _, _, rfl, Nat.le_refl _, fun _ => ⟨_, 0, rfl, Nat.le_refl _, by simp, fun j hj => ?_, fun j _ => frozen_of_heap (World.alloc_heap_new w _) _⟩⟩
    obtain rfl : j = 0 := by simpa using hj
    exact cell_of_heap (World.alloc_heap_new w _) 0
  have hb0 : Below w.heap.size w (w.alloc (.cells #[.int .u64 x] 42)) := (Below.refl _ _).alloc (Nat.le_refl _) _
  have hv : val [x] = x := by simp [val]
  have hd := rdiv_yes (ha.below hb0) hs hla (by simp) (by rw [hv]; exact hx.1)
  rw [hv] at hd
  have hm0 := Int.emod_nonneg (val xs) (show x ≠ 0 by omega)
  have hm1 := Int.emod_lt_of_pos (val xs) hx.1
  clear hv
  go_enter Tryz.func43, Tryz.ntmps43
  go_wp2_with fail
  refine hd.mono ?_
  rintro e w1 ⟨a1, a2, c1, c2, qs, rs, rfl, hq, hr, nq, nr, vq, vr, lq, lr, hb1⟩
  have ho := rone_yes hr (by simp at lr; omega) (by rw [vr]; omega)
  rw [vr] at ho
  have HQ := hide vq
  clear hd vq vr
  go_wp2_with fail
  refine ho.mono ?_
  rintro e w2 ⟨rfl, hb2⟩
  have hb01 := hb0.trans (hb1.mono hb0.size)
  clear ho
  go_wp2
  go_ret3
  exact ⟨_, _, qs, rfl, (hq.below hb2).mono hb0.size, nq, HQ.out, lq, hb01.trans (hb2.mono hb01.size)⟩
def gcdI (a b : Int) : Int := (Nat.gcd a.toNat b.toNat : Nat)
theorem gcdI_zero (a : Int) (h : 0 ≤ a) : gcdI a 0 = a := by
  unfold gcdI
  rw [show (0 : Int).toNat = 0 from rfl, Nat.gcd_zero_right]
  omega
theorem gcdI_step {a b : Int} (ha : 0 ≤ a) (hb : 0 < b) : gcdI b (a % b) = gcdI a b := by
  obtain ⟨a, rfl⟩ := Int.eq_ofNat_of_zero_le ha
  obtain ⟨b, rfl⟩ := Int.eq_ofNat_of_zero_le (Int.le_of_lt hb)
  unfold gcdI
  rw [← Int.natCast_emod, Int.toNat_natCast, Int.toNat_natCast, Int.toNat_natCast, Nat.gcd_comm b, ← Nat.gcd_rec, Nat.gcd_comm]
set_option maxRecDepth 100000 in
set_option maxHeartbeats 2000000 in
theorem rgcd_any {lo lo' : Nat} {a b : Option Addr} {la lb ca cb : Nat} {xs ys : List Int} {w : World} (ha : Seg lo w (.slice a la ca) xs) (hb : Seg lo' w (.slice b lb cb) ys) (hla : xs.length ≤ 4000) (hlb : ys.length ≤ 4000) :
    Calls Tryz.prog 40 #[.slice a la ca, .slice b lb cb] w fun e w' => ∃ (a1 : Option Addr) (c1 : Nat) (gs : List Int), e = .returned (.slice a1 gs.length c1) ∧ Seg w.heap.size w' (.slice a1 gs.length c1) gs ∧ Norm gs ∧ val gs = gcdI (val xs) (val ys) ∧ gs.length ≤ max xs.length ys.length ∧ Below w.heap.size w w' := by
  obtain ⟨rfl, _⟩ := ha.len
  obtain ⟨rfl, _⟩ := hb.len
  go_enter Tryz.func40, Tryz.ntmps40
  go_wp2_with fail
  refine (rtrim_any ha (by omega)).mono ?_
  rintro e w1 ⟨a1, c1, ps, rfl, hs1, hn1, hv1, hl1, hb1⟩
  go_wp2_with fail
  refine (rtrim_any (hb.below hb1) (by omega)).mono ?_
  rintro e w2 ⟨a2, c2, ts, rfl, hs2, hn2, hv2, hl2, hb2⟩
  have hb12 := hb1.trans (hb2.mono hb1.size)
  have hs1' := hs1.below hb2
  have hs2' := hs2.mono hb1.size
  have HG : Hid (gcdI (val ps) (val ts) = gcdI (val xs) (val ys)) := by rw [Hid, hv1, hv2]
  clear hv1 hv2 hs1 hs2
  go_wp2
  go_loopw [0, 1] (fun av bv wr => ∃ (a3 a4 : Option Addr) (c3 c4 : Nat) (us vs : List Int), av = .slice a3 us.length c3 ∧ bv = .slice a4 vs.length c4 ∧ Seg w.heap.size wr (.slice a3 us.length c3) us ∧ Seg w.heap.size wr (.slice a4 vs.length c4) vs ∧ Norm us ∧ Norm vs ∧ Hid (gcdI (val us) (val vs) = gcdI (val xs) (val ys)) ∧ us.length ≤ max xs.length ys.length ∧ vs.length ≤ max xs.length ys.length ∧ Below w.heap.size w wr) (fun _ bv wr => (val (cellsOf wr bv)).toNat)
  case atStart => exact ⟨a1, a2, c1, c2, ps, ts, rfl, rfl, hs1', hs2', hn1, hn2, HG, by omega, by omega, hb12⟩
  case round =>
    obtain ⟨a3, a4, c3, c4, us, vs, rfl, rfl, hu, hv, nu, nv, HG, lu, lv, hbr⟩ := hrel
    by_cases h0 : vs = []
    · subst h0
      have hf : gcdI (val us) (val []) = val us := gcdI_zero _ (val_nonneg hu.words)
      have HF : Hid (val us = gcdI (val xs) (val ys)) := by rw [Hid, ← HG.out, hf]
      clear hf
      go_wp2
      go_ret
      exact ⟨_, _, us, rfl, hu, nu, HF.out, lu, hbr⟩
    · have hp := norm_pos hv.words nv h0
      have hl0 : (0 : Int) < (vs.length : Int) := by have := List.length_pos_iff.2 h0; omega
      have hd := rdiv_yes hu hv (by omega) (by omega) hp
      have hm := Int.emod_lt_of_pos (val us) hp
      have hm0 := Int.emod_nonneg (val us) (show val vs ≠ 0 by omega)
      have HS := hide (gcdI_step (val_nonneg hu.words) hp)
      have HCV := hide hv.cells
      have hwv := hv.words
      clear h0
      go_wp2_with fail
      refine hd.mono ?_
      rintro e w3 ⟨a5, a6, c5, c6, qs, rs, rfl, hq, hr, nq, nr, vq, vr, lq, lr, hb3⟩
      have hrl : rs.length ≤ vs.length := len_below hr.words nr (by have := val_lt hwv; rw [vr]; omega)
      have HCR := hide hr.cells
      have HG' : Hid (gcdI (val vs) (val rs) = gcdI (val xs) (val ys)) := by rw [Hid, vr, HS.out, HG.out]
      have HM : Hid (0 ≤ val rs ∧ val rs < val vs) := by rw [Hid, vr]; exact ⟨hm0, hm⟩
      have hv3 := hv.below hb3
      have hr3 := hr.mono hbr.size
      have hb4 := hbr.trans (hb3.mono hbr.size)
      clear hd vq vr hm hm0 hp hq
      go_wp2
      refine ⟨⟨a4, a6, c4, c6, vs, rs, rfl, rfl, hv3, hr3, nv, nr, HG', lv, by omega, hb4⟩, ?_⟩
      rw [HCR.out, HCV.out]
      have := HM.out
      omega
def errZ (b : Int) : Int := if b = 0 then 5 else 0
def remZ (a b : Int) : Int := if b = 0 then 0 else a % b
def dvdB (a b : Int) : Bool := if a = 0 then decide (b = 0) else decide (b % a = 0)
theorem errZ_pos {b : Int} (h : 0 < b) : errZ b = 0 := if_neg (by omega)
theorem remZ_pos (a : Int) {b : Int} (h : 0 < b) : remZ a b = a % b := if_neg (by omega)
theorem remZ_word {a x : Int} (hx : 0 ≤ x ∧ x < 18446744073709551616) : 0 ≤ remZ a x ∧ remZ a x < 18446744073709551616 := by
  unfold remZ
  split
  · decide
  · have := Int.emod_nonneg a (show x ≠ 0 by omega)
    have := Int.emod_lt_of_pos a (show 0 < x by omega)
    omega
def Apart (a1 a2 : Option Addr) (xs ys : List Int) : Prop := xs ≠ [] → ys ≠ [] → ∀ b1 o1 b2 o2, a1 = some ⟨b1, o1, none⟩ → a2 = some ⟨b2, o2, none⟩ → b1 ≠ b2
theorem apart_of {lo hi : Nat} {W : World} {a1 a2 : Option Addr} {n c : Nat} {xs ys : List Int} (h1 : xs ≠ [] → ∀ b o, a1 = some ⟨b, o, none⟩ → b < hi) (S : Seg lo W (.slice a2 n c) ys) (hle : hi ≤ lo) : Apart a1 a2 xs ys := fun hx hy b1 o1 b2 o2 e1 e2 => by
  have a := h1 hx b1 o1 e1
  obtain ⟨hl, _⟩ := S.len
  obtain ⟨b', o', e3, h2, _⟩ := S.row (by rw [hl]; exact List.length_pos_iff.2 hy)
  rw [e2] at e3
  simp only [Option.some.injEq, Addr.mk.injEq] at e3
  omega
theorem apart_nil_left (a1 a2 : Option Addr) (ys : List Int) : Apart a1 a2 [] ys := fun h => absurd rfl h
structure OverT (lo : Nat) (a : Option Addr) (zs : List Int) (w w' : World) : Prop where
  below : Below lo w w'
  other : ∀ k, (zs ≠ [] → ∀ b o, a = some ⟨b, o, none⟩ → k ≠ b) → k < w.heap.size → w'.heap[k]? = w.heap[k]?
theorem Seg.overt {lo lo2 : Nat} {w w' : World} {a a2 : Option Addr} {n c : Nat} {zs ys : List Int} (h : Seg lo2 w (.slice a2 n c) ys) (ht : OverT lo a zs w w') (hd : Apart a a2 zs ys) : Seg lo2 w' (.slice a2 n c) ys := by
  obtain ⟨hw, a', cap', e, h1, h3⟩ := h
  refine ⟨hw, a', cap', e, h1, fun hz => ?_⟩
  obtain ⟨g, o, e1, e2, e3, e4, e5⟩ := h3 hz
  simp only [Value.slice.injEq] at e
  have ea : a2 = some ⟨g, o, none⟩ := e.1.trans e1
  have hk := ht.other g (fun hzs b ob eb => fun eg => hd hzs hz b ob g o eb ea eg.symm) e3
  exact ⟨g, o, e1, e2, Nat.lt_of_lt_of_le e3 ht.below.size, fun j hj => (World.cell?_of_block (a := ⟨g, o + j, none⟩) hk).trans (e4 j hj), fun j hj => (World.frozen?_of_block (a := ⟨g, o + j, none⟩) hk).trans (e5 j hj)⟩
set_option maxRecDepth 100000 in
set_option maxHeartbeats 1000000 in
theorem over_ot {lo : Nat} {a : Option Addr} {cap : Nat} {zs : List Int} {w : World} (h : Seg lo w (.slice a zs.length cap) zs) (hl : zs.length ≤ 1000000) :
    Calls Tryz.prog 27 #[.slice a zs.length cap] w fun e w' => e = .returned (.tuple #[]) ∧ OverT lo a zs w w' := by
  by_cases hz : zs = []
  · subst hz
    refine (over_fr h hl 0 (fun h => absurd rfl h)).mono ?_
    rintro e w' ⟨rfl, hb, hh⟩
    exact ⟨rfl, hb, fun k _ _ => hh k (Nat.zero_le _)⟩
  · obtain ⟨b, off, rfl, hlb, hbw⟩ := h.row (List.length_pos_iff.2 hz)
    have HZ := hide hz
    obtain ⟨len, hlen⟩ : ∃ len, zs.length = len := ⟨_, rfl⟩
    rw [hlen] at h hl ⊢
    clear hlen hz
    go_enter Tryz.func27, Tryz.ntmps27
    go_wp2
    go_loopw [2] (fun i wr => ∃ (k : Nat) (ss : List Int), k ≤ len ∧ i = .int .i64 k ∧ Seg lo wr (.slice (some ⟨b, off, none⟩) len cap) ss ∧ Turns b w wr) (fun i _ => len - (intOf i).toNat)
    case atStart => exact ⟨0, zs, Nat.zero_le _, rfl, h, Turns.refl _ _⟩
    case round =>
      obtain ⟨k, ss, hk, rfl, hss, htr⟩ := hrel
      by_cases hkl : k < len
      · obtain ⟨hc, hf⟩ := hss.cell (j := k) hkl
        have hw := hss.words.getD k
        have HS := hide (hss.set (k := k) (by rw [← hss.len.1]; exact hkl) (x := bits .xor .u64 (ss[k]?.getD 0) 2779096485) (xor_word _ hw))
        have hki : (k : Int) < (len : Int) := by omega
        clear hw
        generalize ss[k]?.getD 0 = x at *
        go_wp2
        exact ⟨⟨k + 1, _, by omega, by go_num, HS.out, htr.setCell _ _⟩, by simp [intOf]; omega⟩
      · go_wp2
        go_end0
        exact ⟨rfl, htr.below.mono hlb, fun k hk hkw => htr.other k (fun e => hk HZ.out b off rfl e) hkw⟩
end Go.Proofs.YtfcpaejeppedoaaGreatDoor
namespace Go.Proofs.YtfcpaejeppedoaaGreatDoor
theorem gcdI_gcd {a b : Int} (ha : 0 ≤ a) (hb : 0 ≤ b) : gcdI a b = (Int.gcd a b : Int) := by
  unfold gcdI Int.gcd
  rw [show a.toNat = a.natAbs by omega, show b.toNat = b.natAbs by omega]
end Go.Proofs.YtfcpaejeppedoaaGreatDoor
namespace Go.Proofs.YtfcpaejeppedoaaGreatDoor
open Go.RowKit
theorem strOfNums_append (x y : List Int) : strOfNums x ++ strOfNums y = strOfNums (x ++ y) := by
  unfold strOfNums
  rw [ByteArray.mk_append_mk, List.map_append]
def decP (v : Int) : List Int := (digB 10 v.toNat).map (fun d : Nat => (d : Int) + 48)
def decI (v : Int) : List Int := (dec v.toNat).map (fun b : Nat => (b : Int))
theorem decP_zero : decP 0 = [] := by rw [decP, show (0 : Int).toNat = 0 from rfl, digB_zero]; rfl
theorem decI_zero : decI 0 = [48] := rfl
theorem decI_pos {v : Int} (hv : 0 < v) : decI v = decP v := by
  unfold decI decP dec
  rw [if_neg (by omega), List.map_map]
  rfl
theorem decP_step {v : Int} (hv : 0 < v) : decP v = decP (v / 10) ++ [v % 10 + 48] := by
  unfold decP
  have h1 : (v / 10).toNat = v.toNat / 10 := by omega
  have h2 : v % 10 = ((v.toNat % 10 : Nat) : Int) := by omega
  rw [digB_pos (by omega) (by omega), List.map_append, h1, h2]
  rfl
theorem decP_len {v : Int} {n : Nat} (h : v < pw n) : (decP v).length ≤ 20 * n := by
  rw [decP, List.length_map, digB_len (by omega)]
  have h1 : pw n = (((2 ^ 64) ^ n : Nat) : Int) := by
    unfold pw
    rw [Int.natCast_pow]
    rfl
  have h2 : (2 ^ 64 : Nat) ^ n ≤ (10 ^ 20) ^ n := Nat.pow_le_pow_left (by decide) n
  rw [Nat.pow_mul]
  have h3 : 0 < (10 ^ 20 : Nat) ^ n := Nat.pow_pos (by decide)
  omega
set_option maxRecDepth 100000 in
set_option maxHeartbeats 4000000 in
theorem jput_any {lo : Nat} {a : Option Addr} {cap : Nat} {xs : List Int} {w : World} (h : Seg lo w (.slice a xs.length cap) xs) (hl : xs.length ≤ 4000) :
    Calls Tryz.prog 20 #[.slice a xs.length cap] w fun e w' => e = .returned (.string (strOfNums (decI (val xs)))) ∧ Below w.heap.size w w' := by
  go_enter Tryz.func20, Tryz.ntmps20
  go_wp2_with fail
  refine (rtrim_any h (by omega)).mono ?_
  rintro e w1 ⟨a1, c1, ts, rfl, hs, hn, hv, hlt, hb⟩
  by_cases h0 : ts = []
  · subst h0
    have HV : Hid (val xs = 0) := by rw [Hid, ← hv]; rfl
    clear hv
    go_wp2
    go_ret
    exact ⟨by rw [HV.out]; rfl, hb⟩
  · have hp := norm_pos hs.words hn h0
    have hz : ((ts.length : Int) == 0) = false := beq_eq_false_iff_ne.2 (by have := List.length_pos_iff.2 h0; omega)
    have HV : Hid (0 < val xs) := by rw [Hid, ← hv]; exact hp
    have HD : Hid (decP (val xs) = decP (val ts) ++ []) := by rw [Hid, hv, List.append_nil]
    have HL : Hid ((decP (val xs)).length ≤ 80000) := by
      have := decP_len (val_lt h.words)
      rw [Hid]
      omega
    clear hv h0
    go_wp2
    go_loopg [0, 3] ((val ts).toNat) (fun k nv ov wr => ∃ (a2 : Option Addr) (c2 : Nat) (us out : List Int), nv = .slice a2 us.length c2 ∧ ov = .string (strOfNums out) ∧ Seg w.heap.size wr (.slice a2 us.length c2) us ∧ Norm us ∧ us.length ≤ 4000 ∧ Hid (k = (val us).toNat) ∧ Hid (decP (val xs) = decP (val us) ++ out) ∧ Below w.heap.size w wr)
    case atStart => exact ⟨a1, c1, ts, [], rfl, rfl, hs, hn, by omega, rfl, HD, hb⟩
    case round =>
      clear hs hn hp hlt hb HD
      obtain ⟨a2, c2, us, out, rfl, rfl, hu, nu, lu, HK, HD, hB⟩ := hrel
      by_cases h0 : us = []
      · subst h0
        have HE : Hid (decI (val xs) = out) := by rw [Hid, decI_pos HV.out, HD.out, val_nil, decP_zero, List.nil_append]
        go_wp2
        go_ret
        exact ⟨by rw [HE.out]; rfl, hB⟩
      · have hp := norm_pos hu.words nu h0
        have hl1 : (0 : Int) < (us.length : Int) := by have := List.length_pos_iff.2 h0; omega
        have hd := rpart_yes hu (by omega) 10 ⟨by omega, by omega⟩
        have HS := hide (decP_step hp)
        have hr0 : 0 ≤ val us % 10 ∧ val us % 10 < 10 := by omega
        have HQ : Hid (0 ≤ val us / 10 ∧ val us / 10 < val us) := by rw [Hid]; omega
        obtain ⟨r, hr⟩ : ∃ r, val us % 10 = r := ⟨_, rfl⟩
        rw [hr] at hd hr0 HS
        have hw1 : IntKind.u64.wrap (48 + r) = 48 + r := by rw [IntKind.wrap_u64]; omega
        have hw2 : IntKind.u8.wrap (48 + r) = 48 + r := by rw [IntKind.wrap_u8]; omega
        have HP := hide hp
        clear hr h0 hp
        go_wp2_with fail
        refine hd.mono ?_
        rintro e w2 ⟨a3, c3, qs, rfl, hq, nq, vq, lq, hb2⟩
        have hB2 := hB.trans (hb2.mono hB.size)
        have hsq := hq.mono hB.size
        have HVQ := hide vq
        have hn : Below w2.heap.size w2 (w2.alloc (.cells #[.int .u8 (48 + r)] 5)) := (Below.refl _ _).alloc (Nat.le_refl _) _ 
        have hconv := run_convert_bytes_arg (P := Tryz.prog) (w2.alloc (.cells #[.int .u8 (48 + r)] 5)) 69 5 Tryz.underlying69 Tryz.underlying5 w2.heap.size 0 1 1 [48 + r] rfl (fun i hi => by
          obtain rfl : i = 0 := by omega
          exact cell_of_heap (World.alloc_heap_new w2 _) 0) 9 Tryz.underlying9
        have hsz : ¬ (strOfNums [48 + r]).size + (strOfNums out).size > 9223372036854775807 := by
          rw [strOfNums_size, strOfNums_size]
          have h1 := HL.out
          rw [HD.out, List.length_append] at h1
          simp
          omega
        clear hd vq
        go_wp2
        go_roundg (val qs).toNat
        case measure => rw [HK.out, HVQ.out]; have := HQ.out; omega
        case rel =>
          refine ⟨a3, c3, qs, (48 + r) :: out, rfl, ?_, hsq.below hn, nq, by omega, rfl, ?_, hB2.trans (hn.mono hB2.size)⟩
          · rw [strOfNums_append]; rfl
          · rw [Hid, HD.out, HS.out, HVQ.out, List.append_assoc, Int.add_comm r 48]; rfl
def b256 (v : Int) : List Int := (digB 256 v.toNat).map (fun d : Nat => (d : Int))
def soFar (X x : Int) (j : Nat) : Int := X * 256 ^ (8 - j) + x / 256 ^ j
def octs (s : ByteArray) : List Int := s.data.toList.map (fun b : UInt8 => (b.toNat : Int))
theorem octs_len (s : ByteArray) : (octs s).length = s.size := by rw [octs, List.length_map, Array.length_toList]; rfl
theorem octs_octs (s : ByteArray) : Octs (octs s) := by
  intro z hz
  obtain ⟨b, _, rfl⟩ := List.mem_map.1 hz
  have := b.toNat_lt
  omega
theorem octs_at (s : ByteArray) (k : Nat) (h : k < s.size) : (((s[k]'h).toNat : Nat) : Int) = (octs s)[k]?.getD 0 := by
  have h2 : k < s.data.size := h
  rw [octs, List.getElem?_map, Array.getElem?_toList, Array.getElem?_eq_getElem h2]
  rfl
theorem str_octs (s : ByteArray) : strOfNums (octs s) = s := by
  apply ByteArray.ext
  unfold strOfNums octs
  rw [List.map_map]
  have : ((fun n : Int => UInt8.ofNat n.toNat) ∘ fun b : UInt8 => (b.toNat : Int)) = id := by
    funext b
    simp
  rw [this, List.map_id]
theorem octs_str {bs : List Int} (h : Octs bs) : octs (strOfNums bs) = bs := by
  unfold octs
  rw [strOfNums_data, List.map_map]
  conv => rhs; rw [← List.map_id bs]
  refine List.map_congr_left fun x hx => ?_
  have := h x hx
  simp only [Function.comp, id]
  rw [UInt8.toNat_ofNat_of_lt' (by show x.toNat < 256; omega)]
  omega
theorem octs_toList (s : ByteArray) : s.toList = (octs s).map fun n => UInt8.ofNat n.toNat := by
  rw [← strOfNums_toList, str_octs]
theorem str_eq (s t : ByteArray) : (s.toList == t.toList) = decide (octs s = octs t) := by
  rw [octs_toList, octs_toList t, Bool.eq_iff_iff, beq_iff_eq, decide_eq_true_iff]
  exact strOfNums_inj (octs_octs s) (octs_octs t)
def getZ (bs : List Int) : Except (Int × Int) Int :=
  if 10000 < bs.length then .error (4, 10000) else
  match getL (bs.map Int.toNat) with
  | .error i => .error (6, (i : Int))
  | .ok n => if bs = [] then .error (6, 0) else .ok (n : Int)
theorem decI_octs (v : Int) : Octs (decI v) := by
  intro z hz
  obtain ⟨b, hb, rfl⟩ := List.mem_map.1 hz
  have := of_decide_eq_true (dec_dig v.toNat b hb)
  omega
theorem decI_toNat (v : Int) : (decI v).map Int.toNat = dec v.toNat := by
  unfold decI
  rw [List.map_map]
  conv => rhs; rw [← List.map_id (dec v.toNat)]
  exact List.map_congr_left fun x _ => by simp
theorem getZ_dec {v : Int} (hv : 0 ≤ v) (hl : (decI v).length ≤ 10000) : getZ (decI v) = .ok v := by
  unfold getZ
  rw [if_neg (by omega), decI_toNat, get_dec]
  have hne : decI v ≠ [] := by
    intro h
    exact dec_ne_nil v.toNat (List.map_eq_nil_iff.1 h)
  simp only [if_neg hne]
  rw [show ((v.toNat : Nat) : Int) = v by omega]
theorem dec_getZ {bs : List Int} (hb : Octs bs) {v : Int} (h : getZ bs = .ok v) : 0 ≤ v ∧ bs = decI v ∧ bs.length ≤ 10000 := by
  unfold getZ at h
  by_cases hl : 10000 < bs.length
  · rw [if_pos hl] at h; cases h
  · rw [if_neg hl] at h
    cases hg : getL (bs.map Int.toNat) with
    | error i => rw [hg] at h; cases h
    | ok n =>
      rw [hg] at h
      by_cases hn : bs = []
      · simp only [if_pos hn] at h; cases h
      · simp only [if_neg hn] at h
        cases h
        refine ⟨by omega, ?_, by omega⟩
        have e := dec_of_get (by simpa using hn) hg
        unfold decI
        rw [show ((n : Int)).toNat = n from rfl, ← e, List.map_map]
        conv => lhs; rw [← List.map_id bs]
        refine List.map_congr_left fun x hx => ?_
        have := hb x hx
        simp only [Function.comp, id]
        omega
theorem decI_inj {v u : Int} (hv : 0 ≤ v) (hu : 0 ≤ u) (h : decI v = decI u) : v = u := by
  have h1 : (decI v).map Int.toNat = (decI u).map Int.toNat := by rw [h]
  rw [decI_toNat, decI_toNat] at h1
  have := dec_inj h1
  omega
def numZ (bs : List Int) : Int := bs.foldl (fun n b => n * 10 + (b - 48)) 0
def AllDig (bs : List Int) : Prop := ∀ b ∈ bs, 48 ≤ b ∧ b ≤ 57
def allB (bs : List Int) : Bool := bs.all fun b => decide (48 ≤ b ∧ b ≤ 57)
theorem allB_iff (bs : List Int) : allB bs = true ↔ AllDig bs := by simp [allB, AllDig]
theorem AllDig.nil : AllDig [] := fun b hb => by simp at hb
theorem numZ_snoc (bs : List Int) (b : Int) : numZ (bs ++ [b]) = numZ bs * 10 + (b - 48) := by simp [numZ]
theorem foldl_nat (bs : List Int) (h : AllDig bs) : ∀ n : Nat, (((bs.map Int.toNat).map (· - 48)).foldl (fun n d => n * 10 + d) n : Nat) = bs.foldl (fun (n : Int) b => n * 10 + (b - 48)) (n : Int) := by
  induction bs with
  | nil => intro n; rfl
  | cons b bs ih =>
    intro n
    have hb := h b (List.mem_cons_self ..)
    have e : (((n * 10 + (b.toNat - 48)) : Nat) : Int) = (n : Int) * 10 + (b - 48) := by omega
    simp only [List.map_cons, List.foldl_cons]
    rw [ih (fun x hx => h x (List.mem_cons_of_mem _ hx)), e]
theorem numZ_bound (bs : List Int) : AllDig bs → 0 ≤ numZ bs ∧ numZ bs < 10 ^ bs.length := by
  have key : ∀ (n : Nat) (bs : List Int), bs.length = n → AllDig bs → 0 ≤ numZ bs ∧ numZ bs < 10 ^ bs.length := by
    intro n
    induction n with
    | zero => intro bs hl _; rw [List.length_eq_zero_iff.1 hl]; decide
    | succ n ih =>
      intro bs hl h
      have hne : bs ≠ [] := by intro e; rw [e] at hl; simp at hl
      have e := List.dropLast_concat_getLast hne
      have hd : AllDig bs.dropLast := fun b hb => h b (List.dropLast_subset bs hb)
      have hb := h _ (List.getLast_mem hne)
      have hi := ih bs.dropLast (by simp [hl]) hd
      rw [← e, numZ_snoc, List.length_append, List.length_singleton, Int.pow_succ]
      omega
  exact key _ bs rfl
theorem numZ_lt {bs : List Int} {k : Nat} (h : AllDig bs) (hl : bs.length ≤ k) : numZ bs < 10 ^ k := by
  have h1 := (numZ_bound bs h).2
  have h2 : (10 : Int) ^ bs.length = ((10 ^ bs.length : Nat) : Int) := by rw [Int.natCast_pow]; rfl
  have h3 : (10 : Int) ^ k = ((10 ^ k : Nat) : Int) := by rw [Int.natCast_pow]; rfl
  have h4 : (10 : Nat) ^ bs.length ≤ 10 ^ k := Nat.pow_le_pow_right (by omega) hl
  omega
theorem numZ_append (bs cs : List Int) : numZ (bs ++ cs) = numZ bs * 10 ^ cs.length + numZ cs := by
  have key : ∀ (cs : List Int) (a : Int), cs.foldl (fun n b => n * 10 + (b - 48)) a = a * 10 ^ cs.length + numZ cs := by
    intro cs
    induction cs with
    | nil => intro a; simp [numZ]
    | cons c cs ih =>
      intro a
      have e : numZ (c :: cs) = (c - 48) * 10 ^ cs.length + numZ cs := by
        show cs.foldl _ (0 * 10 + (c - 48)) = _
        rw [ih]
        simp
      rw [e, List.foldl_cons, ih, List.length_cons, Int.pow_succ, Int.add_mul]
      grind
  unfold numZ
  rw [List.foldl_append, key]
  rfl
def okZ (bs : List Int) : Prop := bs ≠ [] ∧ AllDig bs ∧ (bs.head? = some 48 → bs.length ≤ 1)
theorem isDig_toNat {b : Int} (hb : 0 ≤ b ∧ b < 256) : isDig b.toNat = true ↔ 48 ≤ b ∧ b ≤ 57 := by
  unfold isDig
  rw [decide_eq_true_iff]
  omega
theorem getZ_iff {bs : List Int} (ho : Octs bs) (hl : bs.length ≤ 10000) (v : Int) : getZ bs = .ok v ↔ okZ bs ∧ v = numZ bs := by
  have hh : (bs.map Int.toNat).head? == some 48 ↔ bs.head? = some 48 := by
    cases bs with
    | nil => simp
    | cons b bs =>
      have := ho b (List.mem_cons_self ..)
      simp
      omega
  have hd : (∀ b ∈ bs.map Int.toNat, isDig b = true) ↔ AllDig bs := by
    constructor
    · intro h b hb
      exact (isDig_toNat (ho b hb)).1 (h _ (List.mem_map_of_mem hb))
    · intro h b hb
      obtain ⟨x, hx, rfl⟩ := List.mem_map.1 hb
      exact (isDig_toNat (ho x hx)).2 (h x hx)
  unfold getZ
  rw [if_neg (by omega)]
  constructor
  · intro h
    cases hg : getL (bs.map Int.toNat) with
    | error i => rw [hg] at h; cases h
    | ok n =>
      rw [hg] at h
      by_cases hn : bs = []
      · simp only [if_pos hn] at h; cases h
      · simp only [if_neg hn] at h
        cases h
        rw [getL, getAt_ok] at hg
        obtain ⟨g1, g2, g3⟩ := hg
        have hA := hd.1 g1
        refine ⟨⟨hn, hA, fun h48 => ?_⟩, ?_⟩
        · have := g2 (hh.2 h48) (by omega)
          simpa using this
        · rw [g3, foldl_nat bs hA]
          rfl
  · rintro ⟨⟨hn, hA, h0⟩, rfl⟩
    have hg : getL (bs.map Int.toNat) = .ok (numZ bs).toNat := by
      rw [getL, getAt_ok]
      refine ⟨hd.2 hA, fun h48 _ => ?_, ?_⟩
      · have := h0 (hh.1 h48)
        simpa using this
      · have := foldl_nat bs hA 0
        have e : numZ bs = ((((bs.map Int.toNat).map (· - 48)).foldl (fun n d => n * 10 + d) 0 : Nat) : Int) := by
          rw [this]
          rfl
        rw [e]
        rfl
    rw [hg]
    simp only [if_neg hn]
    have := (numZ_bound bs hA).1
    rw [show (((numZ bs).toNat : Nat) : Int) = numZ bs by omega]
def okB (bs : List Int) : Bool := !bs.isEmpty && allB bs && (bs.head? != some 48 || decide (bs.length ≤ 1))
theorem okB_iff (bs : List Int) : okB bs = true ↔ okZ bs := by
  unfold okB okZ
  rw [Bool.and_eq_true, Bool.and_eq_true, allB_iff, Bool.or_eq_true, decide_eq_true_iff, and_assoc]
  refine and_congr (by simp) (and_congr Iff.rfl ?_)
  rw [bne_iff_ne]
  constructor
  · rintro (h | h) e
    · exact absurd e h
    · exact h
  · intro h
    by_cases e : bs.head? = some 48
    · exact Or.inr (h e)
    · exact Or.inl e
def firstBad : List Int → Nat
  | [] => 0
  | b :: bs => if 48 ≤ b ∧ b ≤ 57 then firstBad bs + 1 else 0
def wrongI (bs : List Int) : Nat := if allB bs then (if bs = [] then 0 else 1) else firstBad bs
theorem firstBad_at : ∀ (bs : List Int) (i : Nat), i < bs.length → AllDig (bs.take i) → ¬ (48 ≤ bs[i]?.getD 0 ∧ bs[i]?.getD 0 ≤ 57) → firstBad bs = i := by
  intro bs
  induction bs with
  | nil => intro i h; simp at h
  | cons b bs ih =>
    intro i hi hd hb
    cases i with
    | zero => unfold firstBad; rw [if_neg (by simpa using hb)]
    | succ i =>
      have h0 := hd b (by simp)
      unfold firstBad
      rw [if_pos h0, ih i (by simpa using hi) (fun x hx => hd x (by simp [hx])) (by simpa using hb)]
theorem allDig_take_succ {bs : List Int} {i : Nat} (hi : i < bs.length) (h : AllDig (bs.take i)) (hb : 48 ≤ bs[i]?.getD 0 ∧ bs[i]?.getD 0 ≤ 57) : AllDig (bs.take (i + 1)) := by
  intro x hx
  rw [List.take_succ_eq_append_getElem hi] at hx
  rcases List.mem_append.1 hx with hx | hx
  · exact h x hx
  · rw [List.mem_singleton.1 hx]
    rw [List.getElem?_eq_getElem hi] at hb
    exact hb
def getP (bs : List Int) : Except (Int × Int) Int :=
  if 10000 < bs.length then .error (4, 10000) else if okB bs then .ok (numZ bs) else .error (6, (wrongI bs : Int))
theorem getP_ok {bs : List Int} (ho : Octs bs) (v : Int) : getP bs = .ok v ↔ getZ bs = .ok v := by
  by_cases hl : 10000 < bs.length
  · unfold getP getZ
    rw [if_pos hl, if_pos hl]
  · rw [getZ_iff ho (by omega)]
    unfold getP
    rw [if_neg hl]
    by_cases h : okZ bs
    · rw [if_pos ((okB_iff bs).2 h)]
      constructor
      · intro e; cases e; exact ⟨h, rfl⟩
      · rintro ⟨_, rfl⟩; rfl
    · rw [if_neg (fun e => h ((okB_iff bs).1 e))]
      constructor
      · intro e; cases e
      · rintro ⟨h', _⟩; exact absurd h' h
set_option maxRecDepth 100000 in
set_option maxHeartbeats 4000000 in
theorem getGroup_any (s : ByteArray) (w : World) (hs : s.size ≤ 19) (hd : AllDig (octs s)) : Calls Tryz.prog 61 #[.string s] w fun e w' => e = .returned (.int .u64 (numZ (octs s))) ∧ w = w' := by
  have HLEN := hide (octs_len s)
  have HA := hide hd
  have H0 : Hid ((0 : Int) = numZ ((octs s).take 0)) := by rw [Hid, List.take_zero]; rfl
  clear hd
  go_enter Tryz.func61, Tryz.ntmps61
  go_wp2
  go_loopw [3, 7] (fun xv iv wr => ∃ (i : Nat) (x : Int), xv = .int .u64 x ∧ iv = .int .i64 i ∧ i ≤ s.size ∧ Hid (x = numZ ((octs s).take i)) ∧ w = wr) (fun _ iv _ => s.size - (intOf iv).toNat)
  case atStart => exact ⟨0, 0, rfl, rfl, Nat.zero_le _, H0, rfl⟩
  case round =>
    clear H0
    obtain ⟨i, x, rfl, rfl, hi, HX, rfl⟩ := hrel
    by_cases hlt : i < s.size
    · have hlt2 : (i : Int) < (s.size : Int) := by omega
      have hge : (0 : Int) ≤ (i : Int) := by omega
      have hw1 : IntKind.i64.wrap ((i : Int) + 1) = (i : Int) + 1 := by rw [IntKind.wrap_i64]; omega
      obtain ⟨b, hb⟩ : ∃ b, (octs s)[i]?.getD 0 = b := ⟨_, rfl⟩
      have hby : ∀ h : i < s.size, (((s[i]'h).toNat : Nat) : Int) = b := fun h => by rw [octs_at, hb]
      have hil : i < (octs s).length := by rw [HLEN.out]; exact hlt
      have hbd : 48 ≤ b ∧ b ≤ 57 := by
        rw [← hb, List.getElem?_eq_getElem hil]
        exact HA.out _ (List.getElem_mem hil)
      have hN : numZ ((octs s).take (i + 1)) = x * 10 + (b - 48) := by
        rw [List.take_succ_eq_append_getElem hil, numZ_snoc, ← HX.out, ← hb, List.getElem?_eq_getElem hil]
        rfl
      have hbound := numZ_bound ((octs s).take (i + 1)) (fun y hy => HA.out y (List.mem_of_mem_take hy))
      have hb0 := numZ_bound ((octs s).take i) (fun y hy => HA.out y (List.mem_of_mem_take hy))
      rw [← HX.out] at hb0
      have h19 := numZ_lt (k := 19) (bs := (octs s).take (i + 1)) (fun y hy => HA.out y (List.mem_of_mem_take hy)) (by rw [List.length_take]; omega)
      rw [hN, show (10 : Int) ^ 19 = 10000000000000000000 by decide] at h19
      rw [hN] at hbound
      have hw2 : IntKind.u64.wrap (x * 10) = x * 10 := by rw [IntKind.wrap_u64]; omega
      have hw3 : IntKind.u8.wrap (b - 48) = b - 48 := by rw [IntKind.wrap_u8]; omega
      have hw4 : IntKind.u64.wrap (b - 48) = b - 48 := by rw [IntKind.wrap_u64]; omega
      have hw5 : IntKind.u64.wrap (x * 10 + (b - 48)) = x * 10 + (b - 48) := by rw [IntKind.wrap_u64]; omega
      have HN := hide hN
      clear hb hN hbound hb0 h19 hbd
      go_wp2
      exact ⟨⟨i + 1, x * 10 + (b - 48), by rfl, by simp, by omega, HN.out.symm, trivial⟩, by simp [intOf]; omega⟩
    · have hnl : ¬ (i : Int) < (s.size : Int) := by omega
      have HE : Hid (x = numZ (octs s)) := by rw [Hid, HX.out, List.take_of_length_le (by rw [HLEN.out]; omega)]
      clear HX
      go_wp2
      go_ret
      exact ⟨by rw [HE.out]; rfl, rfl⟩
set_option maxRecDepth 100000 in
set_option maxHeartbeats 4000000 in
theorem wrongAt_any (s : ByteArray) (w : World) (hs : s.size ≤ 10000) : Calls Tryz.prog 59 #[.string s] w fun e w' => ((e = .returned (.tuple #[.int .i64 0, .bool false]) ∧ okZ (octs s)) ∨ (e = .returned (.tuple #[.int .i64 (wrongI (octs s)), .bool true]) ∧ ¬ okZ (octs s))) ∧ w = w' := by
  have HLEN := hide (octs_len s)
  have H0 : Hid (AllDig ((octs s).take 0)) := by rw [Hid, List.take_zero]; exact AllDig.nil
  go_enter Tryz.func59, Tryz.ntmps59
  go_wp2
  go_loopw [7] (fun iv wr => ∃ (i : Nat), iv = .int .i64 i ∧ i ≤ s.size ∧ Hid (AllDig ((octs s).take i)) ∧ w = wr) (fun iv _ => s.size - (intOf iv).toNat)
  case atStart => exact ⟨0, rfl, Nat.zero_le _, H0, rfl⟩
  case round =>
    clear H0
    obtain ⟨i, rfl, hi, HA, rfl⟩ := hrel
    by_cases hlt : i < s.size
    · have hlt2 : (i : Int) < (s.size : Int) := by omega
      have hge : (0 : Int) ≤ (i : Int) := by omega
      have hw1 : IntKind.i64.wrap ((i : Int) + 1) = (i : Int) + 1 := by rw [IntKind.wrap_i64]; omega
      obtain ⟨b, hb⟩ : ∃ b, (octs s)[i]?.getD 0 = b := ⟨_, rfl⟩
      have hby : ∀ h : i < s.size, (((s[i]'h).toNat : Nat) : Int) = b := fun h => by rw [octs_at, hb]
      have hil : i < (octs s).length := by rw [HLEN.out]; exact hlt
      by_cases hbd : 48 ≤ b ∧ b ≤ 57
      · have HN : Hid (AllDig ((octs s).take (i + 1))) := allDig_take_succ hil HA.out (by rw [hb]; exact hbd)
        have hb1 : ¬ b < 48 := by omega
        have hb2 : ¬ b > 57 := by omega
        clear hb hbd hil
        go_wp2
        exact ⟨⟨i + 1, by simp, by omega, HN, trivial⟩, by simp [intOf]; omega⟩
      · have HN : Hid (wrongI (octs s) = i) := by
          have hn : ¬ AllDig (octs s) := fun h => by
            have := h _ (List.getElem_mem hil)
            rw [List.getElem?_eq_getElem hil] at hb
            simp only [Option.getD_some] at hb
            rw [hb] at this
            exact hbd this
          rw [Hid, wrongI, if_neg (fun e => hn ((allB_iff _).1 e))]
          exact firstBad_at _ i hil HA.out (by rw [hb]; exact hbd)
        have HF : Hid (¬ okZ (octs s)) := fun h => by
          have := h.2.1 _ (List.getElem_mem hil)
          rw [List.getElem?_eq_getElem hil] at hb
          simp only [Option.getD_some] at hb
          rw [hb] at this
          exact hbd this
        have hcase : b < 48 ∨ (¬ b < 48 ∧ b > 57) := by omega
        clear hb hbd hil HA
        rcases hcase with h1 | ⟨h1, h2⟩
        all_goals
          go_wp2
          go_ret2
          exact ⟨Or.inr ⟨by rw [HN.out]; rfl, HF.out⟩, rfl⟩
    · have hnl : ¬ (i : Int) < (s.size : Int) := by omega
      have HE : Hid (AllDig (octs s)) := by
        have := HA.out
        rw [List.take_of_length_le (by rw [HLEN.out]; omega)] at this
        exact this
      have hse : s.toList.isEmpty = decide (s.size = 0) := by
        rw [Bool.eq_iff_iff, List.isEmpty_iff, decide_eq_true_iff, octs_toList, List.map_eq_nil_iff, ← octs_len, List.length_eq_zero_iff]
      clear HA
      by_cases h0 : s.size = 0
      · have hn : octs s = [] := List.length_eq_zero_iff.1 (HLEN.out.trans h0)
        have HF : Hid (¬ okZ (octs s)) := fun h => h.1 hn
        have HW : Hid (wrongI (octs s) = 0) := by rw [Hid, hn]; rfl
        rw [decide_eq_true h0] at hse
        clear hn
        go_wp2
        go_ret2
        exact ⟨Or.inr ⟨by rw [HW.out]; rfl, HF.out⟩, rfl⟩
      · rw [decide_eq_false h0] at hse
        obtain ⟨b, hb⟩ : ∃ b, (octs s)[0]?.getD 0 = b := ⟨_, rfl⟩
        have hby : ∀ h : 0 < s.size, (((s[0]'h).toNat : Nat) : Int) = b := fun h => by rw [octs_at, hb]
        have h00 : 0 < s.size := by omega
        have hne : octs s ≠ [] := fun e => h0 (by rw [← HLEN.out, e]; rfl)
        have hhead : (octs s).head? = some b := by
          cases hx : octs s with
          | nil => exact absurd hx hne
          | cons x xs => rw [hx] at hb; simpa using hb
        have HW : Hid (wrongI (octs s) = 1) := by rw [Hid, wrongI, if_pos ((allB_iff _).2 HE.out), if_neg hne]
        by_cases h48 : b = 48
        · subst h48
          by_cases h1 : s.size = 1
          · have HF : Hid (okZ (octs s)) := ⟨hne, HE.out, fun _ => by rw [HLEN.out, h1]; omega⟩
            have h2 : ¬ (s.size : Int) > 1 := by omega
            clear hb hne hhead
            go_wp2
            go_ret2
            exact ⟨Or.inl ⟨rfl, HF.out⟩, rfl⟩
          · have HF : Hid (¬ okZ (octs s)) := fun h => by
              have := h.2.2 hhead
              rw [HLEN.out] at this
              omega
            have h2 : (s.size : Int) > 1 := by omega
            clear hb hne hhead
            go_wp2
            go_ret2
            exact ⟨Or.inr ⟨by rw [HW.out]; rfl, HF.out⟩, rfl⟩
        · have HF : Hid (okZ (octs s)) := ⟨hne, HE.out, fun e => by rw [hhead] at e; injection e with e; exact absurd e h48⟩
          clear hb hne hhead
          go_wp2
          go_ret2
          exact ⟨Or.inl ⟨rfl, HF.out⟩, rfl⟩
theorem norm_of_val {zs : List Int} (hw : Words zs) (h : zs ≠ [] → pw (zs.length - 1) ≤ val zs) : Norm zs := by
  by_cases e : zs = []
  · exact .inl e
  · right
    intro h0
    have hl : zs.length - 1 < zs.length := by have := List.length_pos_iff.2 e; omega
    have h1 := val_take_succ zs (zs.length - 1) hl
    rw [show zs.length - 1 + 1 = zs.length by omega, List.take_length, h0] at h1
    have h2 := val_lt (hw.take (zs.length - 1))
    rw [List.length_take, Nat.min_eq_left (by omega)] at h2
    have := h e
    omega
theorem own_set {lo : Nat} {W : World} {g n cap : Nat} {zs : List Int} (h : Own lo W (.slice (some ⟨g, 0, none⟩) n cap) zs) (hn : zs.length = n) (k : Nat) {x : Int} (hx : 0 ≤ x ∧ x < 18446744073709551616) : Own lo (W.setCell ⟨g, k, none⟩ (.int .u64 x)) (.slice (some ⟨g, 0, none⟩) n cap) (zs.set k x) := by
  obtain ⟨h1, h2⟩ := h
  rw [hn] at h1
  refine ⟨?_, h2.set k hx⟩
  rw [List.length_set, hn, List.map_set]
  exact (h1.stored k _).1
theorem own_row {lo : Nat} {W : World} {a : Option Addr} {n cap : Nat} {zs : List Int} (h : Own lo W (.slice a n cap) zs) (hn : zs.length = n) (h0 : 0 < n) : ∃ b, a = some ⟨b, 0, none⟩ ∧ lo ≤ b ∧ Seg lo W (.slice (some ⟨b, 0, none⟩) n cap) zs := by
  obtain ⟨a', cap', e, hs⟩ := own_seg h
  simp only [Value.slice.injEq] at e
  obtain ⟨rfl, _, rfl⟩ := e
  rw [hn] at hs
  obtain ⟨⟨_, h2⟩, _⟩ := h
  rcases h2 with ⟨e, hz⟩ | ⟨g, cap2, cur, e, hg, _⟩
  · omega
  · simp only [Value.slice.injEq] at e
    obtain ⟨rfl, _, _⟩ := e
    exact ⟨g, rfl, hg, hs⟩
theorem behind_step {ys : List Int} {i : Nat} {c y c' s B T : Int} (hi : i < ys.length) (hy : ys[i]?.getD 0 = y) (h : val (ys.take i) + pw i * (c + B * val (ys.drop i)) = T) (he : 18446744073709551616 * c' + s = y * B + c) :
    val ((ys.set i s).take (i + 1)) + pw (i + 1) * (c' + B * val ((ys.set i s).drop (i + 1))) = T := by
  have hl : i < (ys.set i s).length := by rw [List.length_set]; exact hi
  have e1 : (ys.set i s).take i = ys.take i := by rw [List.take_set, List.set_eq_of_length_le (by rw [List.length_take]; omega)]
  have e2 : (ys.set i s)[i]?.getD 0 = s := by rw [List.getElem?_set_self hi]; rfl
  have e3 : (ys.set i s).drop (i + 1) = ys.drop (i + 1) := by rw [List.drop_set_of_lt (Nat.lt_succ_self i)]
  rw [val_take_succ _ _ hl, e1, e2, e3, pw_succ, ← h, val_drop ys i, hy]
  grind
set_option maxRecDepth 100000 in
set_option maxHeartbeats 4000000 in
theorem putBehind_any {lo : Nat} {v : Value} {zs : List Int} {w : World} (h : Own lo w v zs) (hn : Norm zs) (hl : zs.length ≤ 1000) (hlo : lo ≤ w.heap.size) (g : Int) (hg : 0 ≤ g ∧ g < 10000000000000000000) :
    Calls Tryz.prog 60 #[v, .int .u64 g] w fun e w' => ∃ (a' : Option Addr) (c' : Nat) (ys : List Int), e = .returned (.slice a' ys.length c') ∧ Own lo w' (.slice a' ys.length c') ys ∧ Norm ys ∧ val ys = val zs * 10000000000000000000 + g ∧ ys.length ≤ zs.length + 1 ∧ Below lo w w' := by
  obtain ⟨a, cap, rfl, hs⟩ := own_seg h
  obtain ⟨n, hN⟩ : ∃ n, zs.length = n := ⟨_, rfl⟩
  have HN := hide hN
  rw [hN] at h hs hl
  have HT0 : Hid (val (zs.take 0) + pw 0 * (g + 10000000000000000000 * val (zs.drop 0)) = val zs * 10000000000000000000 + g) := by
    rw [Hid, List.take_zero, List.drop_zero, val_nil, pw_zero]
    omega
  have HT : Hid (∀ ys : List Int, Words ys → val ys = val zs * 10000000000000000000 + g → ys.length = n → Norm ys) := by
    intro ys hw hv hy
    refine norm_of_val hw fun hne => ?_
    have hz : zs ≠ [] := fun e => hne (List.length_eq_zero_iff.1 (by rw [hy, ← hN, e]; rfl))
    have := norm_val hs.words hn hz
    have h0 := val_nonneg hs.words
    rw [hN] at this
    rw [hv, hy]
    omega
  rw [hN]
  clear hN hn
  go_enter Tryz.func60, Tryz.ntmps60
  go_wp2
  go_loopw [5, 15] (fun cv iv wr => ∃ (i : Nat) (c : Int) (ys : List Int), cv = .int .u64 c ∧ iv = .int .i64 i ∧ i ≤ n ∧ 0 ≤ c ∧ c < 10000000000000000000 ∧ ys.length = n ∧ Own lo wr (.slice a n cap) ys ∧ Hid (val (ys.take i) + pw i * (c + 10000000000000000000 * val (ys.drop i)) = val zs * 10000000000000000000 + g) ∧ Below lo w wr) (fun _ iv _ => n - (intOf iv).toNat)
  case atStart => exact ⟨0, g, zs, rfl, rfl, Nat.zero_le _, hg.1, hg.2, HN.out, h, HT0, Below.refl _ _⟩
  case round =>
    clear HT0 h hs hg
    obtain ⟨i, c, ys, rfl, rfl, hi, hc0, hc1, hyl, ho, HS, hB⟩ := hrel
    by_cases hlt : i < n
    · obtain ⟨b, rfl, hlb, hs⟩ := own_row ho hyl (by omega)
      obtain ⟨hcl, hfz⟩ := hs.cell (j := i) hlt
      have hyb := hs.words.getD i
      obtain ⟨y, hy⟩ : ∃ y, ys[i]?.getD 0 = y := ⟨_, rfl⟩
      rw [hy] at hcl hyb
      rw [Nat.zero_add] at hcl hfz
      obtain ⟨P, hP⟩ : ∃ P, y * 10000000000000000000 = P := ⟨_, rfl⟩
      have hPb : 0 ≤ P ∧ P ≤ 18446744073709551615 * 10000000000000000000 := by omega
      have hmul := fun w => mul64_any y 10000000000000000000 hyb ⟨by omega, by omega⟩ w
      rw [hP] at hmul
      obtain ⟨H, hH⟩ : ∃ H, P / 18446744073709551616 = H := ⟨_, rfl⟩
      obtain ⟨L, hL⟩ : ∃ L, P % 18446744073709551616 = L := ⟨_, rfl⟩
      have hadd := fun w => add64 L c 0 (by omega) hc0 (by omega) (by omega) w
      obtain ⟨s, hs2⟩ : ∃ s, (L + c + 0) % 18446744073709551616 = s := ⟨_, rfl⟩
      obtain ⟨o, ho2⟩ : ∃ o, (L + c + 0) / 18446744073709551616 = o := ⟨_, rfl⟩
      rw [hH, hL] at hmul
      rw [hs2, ho2] at hadd
      have hcn : 0 ≤ H + o ∧ H + o < 10000000000000000000 := by omega
      have hsb : 0 ≤ s ∧ s < 18446744073709551616 := by omega
      have hw1 : IntKind.u64.wrap (H + o) = H + o := by rw [IntKind.wrap_u64]; omega
      have hi2 : (i : Int) < (n : Int) := by omega
      have hge : (0 : Int) ≤ (i : Int) := by omega
      have hw2 : IntKind.i64.wrap ((i : Int) + 1) = (i : Int) + 1 := by rw [IntKind.wrap_i64]; omega
      have HE : Hid (18446744073709551616 * (H + o) + s = y * 10000000000000000000 + c) := by rw [Hid]; omega
      have HS2 := hide (behind_step (by omega) hy HS.out HE.out)
      have HO2 := hide (own_set ho hyl i hsb)
      have HC2 := hide hcn
      clear hP hPb hH hL hs2 ho2 hcn hsb hyb hy HE HS ho
      go_wp2_with fail
      refine (hmul _).mono ?_
      rintro e w1 ⟨rfl, rfl⟩
      clear hmul
      go_wp2
      exact ⟨⟨i + 1, H + o, ys.set i s, rfl, by simp, by omega, HC2.out.1, HC2.out.2, by rw [List.length_set]; exact hyl, HO2.out, HS2, hB.setCell (p := ⟨b, i, none⟩) hlb _⟩, by simp [intOf]; omega⟩
    · obtain rfl : i = n := by omega
      have hni : ¬ (i : Int) < (i : Int) := by omega
      have HV : Hid (val ys + pw i * c = val zs * 10000000000000000000 + g) := by
        have := HS.out
        rw [List.take_of_length_le (by omega), List.drop_of_length_le (by omega), val_nil, Int.mul_zero, Int.add_zero] at this
        exact this
      have HW := hide ho.2
      have HY := hide hyl
      clear HS
      by_cases hc : c = 0
      · subst hc
        have HV2 : Hid (val ys = val zs * 10000000000000000000 + g) := by rw [Hid, ← HV.out]; omega
        have HNm := hide (HT.out ys HW.out HV2.out HY.out)
        clear HV hc0 hc1
        go_wp2
        go_ret
        exact ⟨a, cap, ys, by rw [HY.out]; rfl, by rw [HY.out]; exact ho, HNm.out, HV2.out, by rw [HY.out]; omega, hB⟩
      · have hcp : c > 0 := by omega
        rw [← hyl] at ho
        obtain ⟨a', c', w4, hap, ho4, hb4⟩ := own_append ho c ⟨hc0, by omega⟩ (by omega) (Nat.le_trans hlo hB.size)
        have hlen : (ys ++ [c]).length = ys.length + 1 := by simp
        have HV2 : Hid (val (ys ++ [c]) = val zs * 10000000000000000000 + g) := by rw [Hid, val_snoc, HY.out]; exact HV.out
        have HNm : Hid (Norm (ys ++ [c])) := by
          right
          rw [hlen]
          simp
          omega
        have HO4 := hide ho4
        have HL4 := hide hlen
        rw [hyl] at hap
        clear HV hc0 hc1 ho4 hyl hlen hc
        go_wp2_with (at_builtin; refine Lib.wpList_append_run _ rfl _ _ _ _ rfl _ _ rfl rfl _ _ hap ?_)
        go_ret
        refine ⟨a', c', ys ++ [c], by rw [HL4.out, HY.out]; rfl, by rw [HL4.out]; exact HO4.out, HNm.out, HV2.out, by rw [HL4.out, HY.out]; omega, hB.trans hb4⟩
def padP (k v : Nat) : List Int := if _h : v = 0 ∧ k = 0 then [] else padP (k - 1) (v / 10) ++ [((v % 10 : Nat) : Int) + 48]
termination_by v + k
decreasing_by
  have := Nat.div_le_self v 10
  rcases Nat.eq_zero_or_pos v with h | h
  · omega
  · have := Nat.div_lt_self h (show 1 < 10 by omega)
    omega
theorem padP_nil : padP 0 0 = [] := by rw [padP, dif_pos ⟨rfl, rfl⟩]
theorem padP_step {k v : Nat} (h : ¬ (v = 0 ∧ k = 0)) : padP k v = padP (k - 1) (v / 10) ++ [((v % 10 : Nat) : Int) + 48] := by rw [padP, dif_neg h]
theorem padP_dec (v : Nat) : padP 0 v = decP (v : Int) := by
  induction v using Nat.strongRecOn with
  | ind v ih =>
    by_cases h : v = 0
    · subst h; rw [padP_nil]; exact decP_zero.symm
    · rw [padP_step (by omega), show (0 - 1 : Nat) = 0 by omega, ih (v / 10) (Nat.div_lt_self (by omega) (by omega)), decP_step (v := (v : Int)) (by omega)]
      rfl
theorem padP_one (v : Nat) : padP 1 v = decI (v : Int) := by
  rw [padP_step (by omega), show (1 - 1 : Nat) = 0 by omega, padP_dec]
  by_cases h : v = 0
  · subst h
    rw [show (0 / 10 : Nat) = 0 by omega, show ((0 : Nat) : Int) = 0 from rfl, decP_zero, decI_zero]
    rfl
  · rw [decI_pos (by omega), decP_step (v := (v : Int)) (by omega)]
    rfl
theorem padP_len : ∀ (k v : Nat), v < 10 ^ k → (padP k v).length = k := by
  intro k
  induction k with
  | zero =>
    intro v hv
    obtain rfl : v = 0 := by simpa using hv
    rw [padP_nil]; rfl
  | succ k ih =>
    intro v hv
    rw [padP_step (by omega), List.length_append, show (k + 1 - 1 : Nat) = k by omega, ih (v / 10) (by rw [Nat.div_lt_iff_lt_mul (by omega)]; rw [Nat.pow_succ] at hv; exact hv)]
    rfl
theorem padP_len_le : ∀ (k v : Nat), v < 10 ^ 19 → k ≤ 19 → (padP k v).length ≤ 19 := by
  have key : ∀ n k v : Nat, v < 10 ^ n → k ≤ n → (padP k v).length ≤ n := by
    intro n
    induction n with
    | zero =>
      intro k v hv hk
      obtain rfl : v = 0 := by simpa using hv
      obtain rfl : k = 0 := by omega
      rw [padP_nil]; exact Nat.le_refl _
    | succ n ih =>
      intro k v hv hk
      by_cases h : v = 0 ∧ k = 0
      · obtain ⟨rfl, rfl⟩ := h
        rw [padP_nil]; simp
      · rw [padP_step h, List.length_append]
        have := ih (k - 1) (v / 10) (by rw [Nat.div_lt_iff_lt_mul (by omega)]; rw [Nat.pow_succ] at hv; exact hv) (by omega)
        simp
        omega
  exact fun k v hv hk => key 19 k v hv hk
theorem decP_group : ∀ (k q r : Nat), 0 < q → r < 10 ^ k → decP ((q * 10 ^ k + r : Nat) : Int) = decP (q : Int) ++ padP k r := by
  intro k
  induction k with
  | zero =>
    intro q r _ hr
    obtain rfl : r = 0 := by simpa using hr
    rw [padP_nil]; simp
  | succ k ih =>
    intro q r hq hr
    have hpos : 0 < q * 10 ^ (k + 1) + r := by have := Nat.mul_pos hq (show 0 < 10 ^ (k + 1) from Nat.pow_pos (by omega)); omega
    have e1 : (q * 10 ^ (k + 1) + r) / 10 = q * 10 ^ k + r / 10 := by rw [Nat.pow_succ, ← Nat.mul_assoc, Nat.mul_comm _ 10, Nat.mul_add_div (by omega)]
    have e2 : (q * 10 ^ (k + 1) + r) % 10 = r % 10 := by rw [Nat.pow_succ, ← Nat.mul_assoc, Nat.mul_comm _ 10, Nat.mul_add_mod]
    rw [decP_step (by omega), padP_step (by omega), ← List.append_assoc, show (k + 1 - 1 : Nat) = k by omega, ← ih q (r / 10) hq (by rw [Nat.div_lt_iff_lt_mul (by omega)]; rw [Nat.pow_succ] at hr; exact hr), ← e1]
    congr 1
    rw [← e2]
    rfl
theorem decI_group {v : Int} (hv : 0 ≤ v) (h : 0 < v / 10000000000000000000) : decI v = decI (v / 10000000000000000000) ++ padP 19 (v % 10000000000000000000).toNat := by
  obtain ⟨n, rfl⟩ := Int.eq_ofNat_of_zero_le hv
  have e1 : ((n : Int) / 10000000000000000000) = ((n / 10 ^ 19 : Nat) : Int) := by omega
  have e2 : ((n : Int) % 10000000000000000000).toNat = n % 10 ^ 19 := by omega
  have h2 : 0 < n / 10 ^ 19 := by omega
  rw [e1, e2, decI_pos (by omega), decI_pos (by omega), ← decP_group 19 _ _ h2 (Nat.mod_lt _ (by omega))]
  congr 2
  rw [Nat.mul_comm]
  exact (Nat.div_add_mod n (10 ^ 19)).symm
theorem decI_low {v : Int} (hv : 0 ≤ v) (h : ¬ 0 < v / 10000000000000000000) : decI v = padP 1 (v % 10000000000000000000).toNat := by
  rw [padP_one]
  congr 1
  omega
theorem Byt.drop {lo : Nat} {W : World} {b off len cap : Nat} {zs : List Int} (h : Byt lo W (.slice (some ⟨b, off, none⟩) len cap) zs) (k : Nat) (hk : k ≤ len) : Byt lo W (.slice (some ⟨b, off + k, none⟩) (len - k) (cap - k)) (zs.drop k) := by
  obtain ⟨hw, a', cap', e, h1, h3⟩ := h
  simp only [Value.slice.injEq] at e
  obtain ⟨rfl, rfl, rfl⟩ := e
  have hl : (zs.drop k).length = zs.length - k := List.length_drop
  refine ⟨fun z hz => hw z (List.mem_of_mem_drop hz), _, _, by rw [hl], by rw [hl]; omega, fun hz => ?_⟩
  have hp : 0 < zs.length - k := by rw [← hl]; exact List.length_pos_iff.2 hz
  obtain ⟨b', off', e1, e2, e3, e4, e5⟩ := h3 (List.length_pos_iff.1 (by omega))
  simp only [Option.some.injEq, Addr.mk.injEq] at e1
  obtain ⟨rfl, rfl, _⟩ := e1
  refine ⟨b, off + k, rfl, e2, e3, fun j hj => ?_, fun j hj => ?_⟩
  · rw [hl] at hj
    rw [Nat.add_assoc, e4 (k + j) (by omega), List.getElem?_drop]
  · rw [hl] at hj
    rw [Nat.add_assoc]
    exact e5 (k + j) (by omega)
def grp0 : List Int := [0, 0, 0, 0, 0, 0, 0, 0, 0, 0, 0, 0, 0, 0, 0, 0, 0, 0, 0]
theorem byt_group (w : World) : Byt w.heap.size (w.alloc (.cells #[.int .u8 0, .int .u8 0, .int .u8 0, .int .u8 0, .int .u8 0, .int .u8 0, .int .u8 0, .int .u8 0, .int .u8 0, .int .u8 0, .int .u8 0, .int .u8 0, .int .u8 0, .int .u8 0, .int .u8 0, .int .u8 0, .int .u8 0, .int .u8 0, .int .u8 0] 84)) (.slice (some ⟨w.heap.size, 0, none⟩) 19 19) grp0 := by
  refine ⟨by unfold grp0; intro z hz; simp at hz; omega, _, _, rfl, Nat.le_refl _, fun _ => ⟨w.heap.size, 0, rfl, Nat.le_refl _, by simp, fun j hj => ?_, fun j _ => frozen_of_heap (World.alloc_heap_new w _) _⟩⟩
  have hj' : j < 19 := hj
  rw [cell_of_heap (World.alloc_heap_new w _)]
  show ((grp0.map (Value.int .u8)).toArray)[0 + j]? = _
  rw [Nat.zero_add, List.getElem?_toArray, List.getElem?_map, List.getElem?_eq_getElem (show j < grp0.length from hj')]
  rfl
theorem run_group (W : World) (b k : Nat) (hk : k < 19) : (Instr.sliceAt 84 (.pointer (some ⟨b, 0, none⟩)) (some (.int .i64 k)) none none).run Tryz.prog W = .ok (.slice (some ⟨b, k, none⟩) (19 - k) (19 - k)) W := by
  have hA : Tryz.prog.arrayLen 84 = 19 := by kernel_rfl
  have hE : Tryz.prog.elem 84 = 5 := by kernel_rfl
  have hU : Tryz.prog.underlying 84 = some (.array (Tryz.prog.arrayLen 84) (Tryz.prog.elem 84)) := by rw [hA, hE]; exact Tryz.underlying84
  have hS : (sizeOf 5).run Tryz.prog W = .ok 1 W := Tryz.sizeOf5 W
  rw [run_sliceAt_array_l (P := Tryz.prog) W 84 ⟨b, 0, none⟩ hU .i64 k (by omega) (by rw [hA]; omega), hE, hS, hA]
  have hn : ¬ (19 : Nat) = k := by omega
  simp [go_sem, slicedAt, hn, Addr.add_lit]
set_option maxRecDepth 100000 in
set_option maxHeartbeats 4000000 in
theorem putGroup_any (x0 least : Nat) (hx : x0 < 10 ^ 19) (h1 : 1 ≤ least) (h2 : least ≤ 19) (w : World) :
    Calls Tryz.prog 29 #[.int .u64 x0, .int .i64 least] w fun e w' => e = .returned (.string (strOfNums (padP least x0))) ∧ Below w.heap.size w w' := by
  have hq : Below w.heap.size w (w.alloc (.cells #[.int .u8 0, .int .u8 0, .int .u8 0, .int .u8 0, .int .u8 0, .int .u8 0, .int .u8 0, .int .u8 0, .int .u8 0, .int .u8 0, .int .u8 0, .int .u8 0, .int .u8 0, .int .u8 0, .int .u8 0, .int .u8 0, .int .u8 0, .int .u8 0, .int .u8 0] 84)) := (Below.refl _ _).alloc (Nat.le_refl _) _
  have HG := byt_group w
  have hw0 : IntKind.i64.wrap (19 - (least : Int)) = 19 - (least : Int) := by rw [IntKind.wrap_i64]; omega
  have HP : Hid (padP least x0 = padP (least + 19 - 19) x0 ++ grp0.drop 19) := by
    rw [Hid, show least + 19 - 19 = least by omega]
    exact (List.append_nil _).symm
  go_enter Tryz.func29, Tryz.ntmps29
  go_wp2
  go_loopw [0, 6] (fun xv av wr => ∃ (x at' : Nat) (L : List Int), xv = .int .u64 x ∧ av = .int .i64 at' ∧ at' ≤ 19 ∧ x < 10 ^ at' ∧ Byt w.heap.size wr (.slice (some ⟨w.heap.size, 0, none⟩) 19 19) L ∧ Hid (padP least x0 = padP (least + at' - 19) x ++ L.drop at') ∧ Below w.heap.size w wr) (fun _ av _ => (intOf av).toNat)
  case atStart => exact ⟨x0, 19, grp0, rfl, rfl, by omega, hx, HG, HP, hq⟩
  case round =>
    clear HG HP hq
    obtain ⟨x, at', L, rfl, rfl, ha, hxa, hL, HP, hB⟩ := hrel
    by_cases h : x = 0 ∧ least + at' ≤ 19
    · obtain ⟨rfl, h3⟩ := h
      have hle : ¬ (at' : Int) > 19 - (least : Int) := by omega
      have hS := hL.drop at' ha
      rw [Nat.zero_add] at hS
      clear hxa hx
      have hR := run_str hS
      have hG := run_group wr w.heap.size at' (by omega)
      have HE : Hid (padP least x0 = L.drop at') := by
        rw [Hid, HP.out, show least + at' - 19 = 0 by omega, padP_nil, List.nil_append]
      clear HP
      go_wp2
      go_ret
      refine ⟨?_, hB⟩
      rw [HE.out]
      rfl
    · have hpos : 0 < at' := by
        rcases Nat.eq_zero_or_pos at' with h0 | h0
        · subst h0
          have : x = 0 := by simpa using hxa
          omega
        · exact h0
      obtain ⟨m, rfl⟩ : ∃ m, at' = m + 1 := ⟨at' - 1, by omega⟩
      have hw1 : IntKind.i64.wrap (((m + 1 : Nat) : Int) - 1) = (m : Int) := by rw [IntKind.wrap_i64]; omega
      have hm19 : (m : Int) < 19 := by omega
      have hm0 : (0 : Int) ≤ (m : Int) := by omega
      have hc := (hL.cell (j := m) (by omega))
      rw [Nat.zero_add] at hc
      obtain ⟨hc0, hf0⟩ := hc
      have hx64 : (x : Int) < 18446744073709551616 := by
        have : x < 10 ^ 19 := Nat.lt_of_lt_of_le hxa (Nat.pow_le_pow_right (by omega) ha)
        omega
      have hxd : x / 10 < 10 ^ m := by rw [Nat.div_lt_iff_lt_mul (by omega)]; rw [Nat.pow_succ] at hxa; exact hxa
      have hd : 0 ≤ (x : Int) % 10 + 48 ∧ (x : Int) % 10 + 48 < 256 := by omega
      have hw2 : IntKind.u64.wrap (48 + (x : Int) % 10) = (x : Int) % 10 + 48 := by rw [IntKind.wrap_u64]; omega
      have hw3 : IntKind.u8.wrap ((x : Int) % 10 + 48) = (x : Int) % 10 + 48 := by rw [IntKind.wrap_u8]; omega
      have HS := hide (hL.set (k := m) (by rw [← hL.len.1]; omega) hd)
      have HN : Hid (padP least x0 = padP (least + m - 19) (x / 10) ++ (L.set m ((x : Int) % 10 + 48)).drop m) := by
        rw [Hid, HP.out, padP_step (by omega), show least + (m + 1) - 19 - 1 = least + m - 19 by omega, List.append_assoc]
        congr 1
        have hlm : m < (L.set m ((x : Int) % 10 + 48)).length := by rw [List.length_set, ← hL.len.1]; omega
        rw [List.drop_eq_getElem_cons hlm, List.getElem_set_self, List.drop_set_of_lt (Nat.lt_succ_self m)]
        rfl
      obtain ⟨A, hA⟩ : ∃ A : Int, ((m + 1 : Nat) : Int) = A := ⟨_, rfl⟩
      have hcase : (0 : Int) < (x : Int) ∨ (¬ (0 : Int) < (x : Int) ∧ A > 19 - (least : Int)) := by omega
      have HA : Hid ((m : Int) < A) := by rw [Hid]; omega
      have HC : Hid (Value.int .u64 ((x : Int) / 10) = .int .u64 ((x / 10 : Nat) : Int)) := congrArg _ (by omega)
      rw [hA] at hw1 ⊢
      clear HP hx hxa
      have HX := hide hxd
      clear hxd h hpos ha hA
      rw [Nat.zero_add] at HS
      rcases hcase with hgt | ⟨hn0, hgt⟩
      · have hw4 : IntKind.u64.wrap ((x : Int) / 10) = (x : Int) / 10 := by rw [IntKind.wrap_u64]; omega
        clear hx64
        go_wp2
        exact ⟨⟨x / 10, m, _, HC.out, rfl, by omega, HX.out, HS.out, HN, hB.setCell (p := ⟨w.heap.size, m, none⟩) (Nat.le_refl _) _⟩, by simpa [intOf] using HA.out⟩
      · obtain rfl : x = 0 := by omega
        have HS0 : Hid (Byt w.heap.size (wr.setCell ⟨w.heap.size, m, none⟩ (.int .u8 48)) (.slice (some ⟨w.heap.size, 0, none⟩) 19 19) (L.set m 48)) := HS.out
        have HN0 : Hid (padP least x0 = padP (least + m - 19) 0 ++ (L.set m 48).drop m) := HN.out
        have HX0 : Hid (0 < 10 ^ m) := Nat.pow_pos (by omega)
        clear hx64 hn0 HS HN HX HC
        go_wp2
        exact ⟨⟨0, m, _, rfl, rfl, by omega, HX0.out, HS0.out, HN0, hB.setCell (p := ⟨w.heap.size, m, none⟩) (Nat.le_refl _) _⟩, by simpa [intOf] using HA.out⟩
end Go.Proofs.YtfcpaejeppedoaaGreatDoor
