/-
  Joined: RDiv RGcd QWords FracQ.
-/
import Derived.Test.YtejocefblpkdjaaGreatRQuot
import Derived.Deep.CutRange
import Derived.Laws.MakeOwn
import Derived.Test.YtejocefblpkdjaaGreatJWiden
import Derived.Test.YtejocefblpkdjaaGreatKit
import Derived.Test.YtejocefblpkdjaaGreatJRefD
namespace Go.Proofs.YtejocefblpkdjaaGreat
open Go.RowKit
theorem blen_up (v : Int) (h : 0 ≤ v) : v < 2 ^ blen v := by
  obtain ⟨n, rfl⟩ := Int.eq_ofNat_of_zero_le h
  have : n < 2 ^ blen n := by
    unfold blen Go.bitLen
    rw [Int.toNat_natCast]
    split
    · rename_i h; rw [h]; decide
    · exact Nat.lt_log2_self
  have e : ((2 : Int) ^ blen n) = ((2 ^ blen n : Nat) : Int) := by simp
  rw [e]; omega
theorem blen_down (v : Int) (h : 0 < v) : 2 ^ (blen v - 1) ≤ v := by
  obtain ⟨n, rfl⟩ := Int.eq_ofNat_of_zero_le (Int.le_of_lt h)
  have : 2 ^ (blen n - 1) ≤ n := by
    unfold blen Go.bitLen
    rw [Int.toNat_natCast, if_neg (by omega), Nat.add_sub_cancel]
    exact Nat.log2_self_le (by omega)
  have e : ((2 : Int) ^ (blen n - 1)) = ((2 ^ (blen n - 1) : Nat) : Int) := by simp
  rw [e]; omega
theorem two_mono {m n : Nat} (h : m ≤ n) : (2 : Int) ^ m ≤ 2 ^ n := by
  obtain ⟨k, rfl⟩ := Nat.le.dest h
  rw [Int.pow_add]
  have := two_pos m
  have := two_pos k
  have : (2 : Int) ^ m * 1 ≤ 2 ^ m * 2 ^ k := Int.mul_le_mul_of_nonneg_left (by omega) (by omega)
  omega
theorem blen_less {a b : Int} (ha : 0 ≤ a) (hb : 0 < b) (h : blen a < blen b) : a < b := by
  have := blen_up a ha
  have := blen_down b hb
  have := two_mono (m := blen a) (n := blen b - 1) (by omega)
  omega
theorem start_less {a b : Int} {f : Nat} (ha : 0 ≤ a) (hb : 0 < b) (h1 : 1 ≤ blen b) (h : blen a = blen b + f) : 0 ≤ a / 2 ^ (f + 1) ∧ a / 2 ^ (f + 1) < b := by
  have p := two_pos (f + 1)
  refine ⟨Int.ediv_nonneg ha (by omega), ?_⟩
  have x := blen_up a ha
  have y := blen_down b hb
  have z : a / 2 ^ (f + 1) < 2 ^ (blen b - 1) := by
    refine Int.ediv_lt_of_lt_mul p ?_
    rw [← Int.pow_add, show blen b - 1 + (f + 1) = blen a by omega]; exact x
  omega
theorem or_bit (d : Int) (s : Nat) (hs : s < 64) (hd : 0 ≤ d ∧ d < 18446744073709551616) (c : Int) (e : d = 2 ^ (s + 1) * c) : bits .or .u64 d (IntKind.u64.wrap (2 ^ s)) = d + 2 ^ s ∧ (0 ≤ d + 2 ^ s ∧ d + 2 ^ s < 18446744073709551616) := by
  have hp := two_pos s
  have hps : (2 : Int) ^ (s + 1) = 2 * 2 ^ s := by rw [Int.pow_succ]; omega
  have hC := two_split (s + 1) (by omega)
  have p0 := two_pos (64 - (s + 1))
  have hle : d + 2 * 2 ^ s ≤ 18446744073709551616 := by
    have hc : c < 2 ^ (64 - (s + 1)) := Classical.byContradiction fun h => by
      have : (2 : Int) ^ (s + 1) * 2 ^ (64 - (s + 1)) ≤ 2 ^ (s + 1) * c := Int.mul_le_mul_of_nonneg_left (by omega) (by omega)
      rw [Int.mul_comm, hC] at this
      omega
    have : (2 : Int) ^ (s + 1) * (c + 1) ≤ 2 ^ (s + 1) * 2 ^ (64 - (s + 1)) := Int.mul_le_mul_of_nonneg_left (by omega) (by omega)
    rw [Int.mul_comm (2 ^ (s + 1)) (2 ^ (64 - (s + 1))), hC, Int.mul_add, ← e, Int.mul_one, hps] at this
    exact this
  have hc0 : 0 ≤ c := Classical.byContradiction fun h => by
    have : (2 : Int) ^ (s + 1) * (c + 1) ≤ 2 ^ (s + 1) * 0 := Int.mul_le_mul_of_nonneg_left (by omega) (by omega)
    rw [Int.mul_add, ← e] at this
    omega
  obtain ⟨n, rfl⟩ := Int.eq_ofNat_of_zero_le hd.1
  obtain ⟨m, rfl⟩ := Int.eq_ofNat_of_zero_le hc0
  have h2 : ((2 : Int) ^ s) = ((2 ^ s : Nat) : Int) := by simp
  have h3 : ((2 : Int) ^ (s + 1)) = ((2 ^ (s + 1) : Nat) : Int) := by simp
  have en : n = m * 2 ^ (s + 1) := by rw [h3, ← Int.natCast_mul] at e; rw [Nat.mul_comm]; omega
  rw [h2] at hle hp ⊢
  refine ⟨?_, by omega⟩
  rw [IntKind.wrap_u64, Int.emod_eq_of_lt (by omega) (by omega), bits_or_u64_nat n (2 ^ s) (by omega) (by omega), Nat.or_comm]
  have ol := or_low (2 ^ s) m (s + 1) (Nat.pow_lt_pow_right (by decide) (by omega))
  rw [← en] at ol
  rw [ol]; omega
theorem set_bit {qs : List Int} {Q : Int} {p s : Nat} (hw : Words qs) (hp : p < qs.length) (hs : s < 64) (e : val qs = Q * 2 ^ (64 * p + s + 1)) : (∃ c, qs[p]?.getD 0 = 2 ^ (s + 1) * c) ∧ val (qs.set p (qs[p]?.getD 0 + 2 ^ s)) = (2 * Q + 1) * 2 ^ (64 * p + s) := by
  have a := val_drop_div hw p
  rw [val_drop qs p, e, show 64 * p + s + 1 = 64 * p + (s + 1) by omega, ← pw_bits p (s + 1), Int.mul_left_comm, Int.mul_ediv_cancel_left _ (by have := pw_pos p; omega)] at a
  have b := val_set hp (qs[p]?.getD 0 + 2 ^ s)
  rw [show qs[p]?.getD 0 + 2 ^ s - qs[p]?.getD 0 = (2 : Int) ^ s by omega, pw_bits p s, e, Int.pow_succ] at b
  refine ⟨⟨Q - 2 ^ (64 - (s + 1)) * val (qs.drop (p + 1)), ?_⟩, ?_⟩
  · rw [← two_split (s + 1) (by omega)] at a
    rw [Int.mul_sub, Int.mul_comm _ Q, ← a, ← Int.mul_assoc, Int.mul_comm (2 ^ (s + 1)) (2 ^ (64 - (s + 1)))]
    omega
  · rw [b, Int.add_mul, Int.one_mul, Int.mul_comm 2 Q, Int.mul_assoc, Int.mul_comm 2 (2 ^ (64 * p + s))]
theorem len_below {zs : List Int} {m : Nat} (hw : Words zs) (hn : Norm zs) (h : val zs < pw m) : zs.length ≤ m := by
  by_cases e : zs = []
  · subst e; simp
  · have a := norm_val hw hn e
    rcases Nat.lt_or_ge m zs.length with h1 | h1
    · have := pw_mono (m := m) (n := zs.length - 1) (by omega)
      omega
    · exact h1
theorem div_next {A B Q R : Int} {u : Nat} (e : A / 2 ^ (u + 1) = B * Q + R) : A / 2 ^ u = B * (2 * Q) + (2 * R + A / 2 ^ u % 2) := by
  have h : A / 2 ^ (u + 1) = A / 2 ^ u / 2 := by rw [Int.pow_succ, ← Int.ediv_ediv_of_nonneg (Int.le_of_lt (two_pos u))]
  rw [h] at e
  rw [Int.mul_left_comm B 2 Q]
  omega
theorem words_zeros_lit (n : Nat) (w : World) : Seg w.heap.size (w.alloc (.cells (madeCells (Value.int .u64 0).cells (n * 1)) 78)) (.slice (some ⟨w.heap.size, 0, none⟩) n n) (List.replicate n 0) := by
  have hh : (w.alloc (.cells (madeCells (Value.int .u64 0).cells (n * 1)) 78)).heap[w.heap.size]? = some (.cells (madeCells (Value.int .u64 0).cells (n * 1)) 78 (0, 0)) := World.alloc_heap_new w _
  have hl : (List.replicate n (0 : Int)).length = n := List.length_replicate
  refine ⟨Words.zeros n, _, _, by rw [hl], by rw [hl]; exact Nat.le_refl _, fun _ => ⟨_, 0, rfl, Nat.le_refl _, by simp, fun j hj => ?_, fun j _ => frozen_of_heap hh _⟩⟩
  rw [hl] at hj
  rw [cell_of_heap hh, Nat.zero_add]
  simp [madeCells, Value.cells, Nat.mod_one, hj]
theorem make_any (n : Nat) (hn : n ≤ 100000) : ∃ Z : Obj, (∀ w : World, (Instr.makeSlice 23 (.int .i64 n) (.int .i64 n)).run Tryz.prog w = .ok (.slice (some ⟨w.heap.size, 0, none⟩) n n) (w.alloc Z)) ∧ (∀ w : World, Seg w.heap.size (w.alloc Z) (.slice (some ⟨w.heap.size, 0, none⟩) n n) (List.replicate n 0)) := by
  obtain ⟨i0, hi, hz0, hz1, hz2⟩ := info_parts infoU64
  refine ⟨.cells (madeCells (Value.int .u64 0).cells (n * 1)) 78, fun w => ?_, words_zeros_lit n⟩
  have := run_make (P := Tryz.prog) w 23 78 i0 (.int .u64 0) Tryz.underlying23 hi hz0 .i64 .i64 n n (by omega) (Int.le_refl _) (by rw [hz2]; omega) (by omega)
  rw [Int.toNat_natCast, hz1] at this
  exact this
set_option maxRecDepth 100000 in
set_option maxHeartbeats 4000000 in
theorem rdiv_long {lo lo' : Nat} {a b : Option Addr} {ca cb : Nat} {xs ys : List Int} {w : World} (ha : Seg lo w (.slice a xs.length ca) xs) (hb : Seg lo' w (.slice b ys.length cb) ys) (hla : xs.length ≤ 4000) (hlb : ys.length ≤ 4000) (hB : 0 < val ys) (f : Nat) (hf : blen (val xs) = blen (val ys) + f) (hf4 : blen (val xs) ≤ 64 * xs.length) :
    Calls Tryz.prog 100 #[.slice a xs.length ca, .slice b ys.length cb] w fun e w' => ∃ (a1 a2 : Option Addr) (c1 c2 : Nat) (qs rs : List Int), e = .returned (.tuple #[.slice a1 qs.length c1, .slice a2 rs.length c2, .int .i64 0]) ∧ Seg w.heap.size w' (.slice a1 qs.length c1) qs ∧ Seg w.heap.size w' (.slice a2 rs.length c2) rs ∧ Norm qs ∧ Norm rs ∧ val qs = val xs / val ys ∧ val rs = val xs % val ys ∧ qs.length ≤ xs.length ∧ rs.length ≤ ys.length + 1 ∧ Below w.heap.size w w' := by
  have hA := val_nonneg ha.words
  have hwx := ha.words
  have hbp := blen_pos hB
  obtain ⟨st0, st1⟩ := start_less hA hB hbp hf
  have ht := rtrim_any hb (by omega)
  obtain ⟨bl, hbl⟩ : ∃ bl, blen (val ys) = bl := ⟨_, rfl⟩
  have hlA := fun (W : World) (hW : Below w.heap.size w W) => rlen_any (ha.below hW) (by omega)
  rw [hf, hbl] at hlA
  have hbl4 : bl + f ≤ 256000 := by omega
  have hfn : f < 64 * xs.length := by omega
  have hsub : (bl : Int) + (f : Int) - (bl : Int) = (f : Int) := by omega
  have HBL := hide hbl
  have HST : Hid (0 ≤ val xs / 2 ^ (f + 1) ∧ val xs / 2 ^ (f + 1) < val ys) := ⟨st0, st1⟩
  have HA := hide hA
  have HB := hide hB
  obtain ⟨n, hn⟩ : ∃ n, xs.length = n := ⟨_, rfl⟩
  have HN := hide hn
  obtain ⟨Z1, mk1, sg1⟩ := make_any xs.length (by omega)
  rw [hn] at ha hla hlA hfn mk1 sg1 ⊢
  clear hn hf hf4 hbl st0 st1 hA hB hbp
  have hf0 : ¬ ((f : Int) < 0) := by omega
  go_enter Tryz.func100, Tryz.ntmps100
  go_wp2_with fail
  refine ht.mono ?_
  rintro e w1 ⟨a1, c1, ts, rfl, hs1, hn1, hv1, hl1, hb1⟩
  have HV1 := hide hv1
  have hwt := hs1.words
  have hlB := rlen_any hs1 (by omega)
  rw [hv1, HBL.out] at hlB
  have hne : ts ≠ [] := fun e => by
    have := HB.out
    rw [e, val_nil] at hv1
    omega
  have hm0 : 0 < ts.length := List.length_pos_iff.2 hne
  obtain ⟨Z2, mk2, sg2⟩ := make_any (ts.length + 1) (by omega)
  obtain ⟨m, hm⟩ : ∃ m, ts.length = m := ⟨_, rfl⟩
  have HM := hide hm
  rw [hm] at hs1 hlB hm0 mk2 sg2 hl1 ⊢
  rw [show ((m + 1 : Nat) : Int) = (m : Int) + 1 from rfl] at mk2
  have hmz : ((m : Int) == 0) = false := beq_eq_false_iff_ne.2 (by omega)
  clear hv1 hne hm ht
  go_wp2_with fail
  refine (hlA w1 hb1).mono ?_
  rintro e w2 ⟨rfl, hb2⟩
  clear hlA
  have hs2 := hs1.below hb2
  have hlB' := rlen_any (zs := ts) (a := a1) (cap := c1) (by rw [HM.out]; exact hs2) (by rw [HM.out]; omega)
  rw [HM.out, HV1.out, HBL.out] at hlB'
  clear hlB
  go_wp2_with fail
  refine hlB'.mono ?_
  rintro e w3 ⟨rfl, hb3⟩
  have hs3 := hs2.below hb3
  have hb13 : Below w1.heap.size w1 w3 := hb2.trans (hb3.mono hb2.size)
  have hbw3 : Below w.heap.size w w3 := hb1.trans (hb13.mono hb1.size)
  have ha3 := ha.below hbw3
  clear hlB' hs1 hs2 hb1 hb2 hb3 hb13 hb
  go_wp2_with fail
  go_cut [8, 9] from 27 (fun v8 v9 wx => ∃ (bq br : Nat), v8 = .slice (some ⟨bq, 0, none⟩) n n ∧ v9 = .slice (some ⟨br, 0, none⟩) (m + 1) (m + 1) ∧ Seg w3.heap.size wx (.slice (some ⟨bq, 0, none⟩) n n) (List.replicate n 0) ∧ Seg w3.heap.size wx (.slice (some ⟨br, 0, none⟩) (m + 1) (m + 1)) (List.replicate (m + 1) 0) ∧ bq ≠ br ∧ w3.heap.size ≤ bq ∧ w3.heap.size ≤ br ∧ Below w3.heap.size w3 wx)
  case first =>
    have hB1 : ∀ X Y : Obj, Below w3.heap.size w3 ((w3.alloc X).alloc Y).drew := fun X Y => (((Below.refl _ w3).alloc (Nat.le_refl _) _).alloc (by simp) _).drew
    have q1 : Seg w3.heap.size ((w3.alloc Z1).alloc Z2).drew (.slice (some ⟨w3.heap.size, 0, none⟩) n n) (List.replicate n 0) := (sg1 w3).below ((Below.refl _ (w3.alloc Z1)).alloc (Nat.le_refl _) Z2).drew
    have r1 : Seg w3.heap.size ((w3.alloc Z2).alloc Z1).drew (.slice (some ⟨w3.heap.size, 0, none⟩) (m + 1) (m + 1)) (List.replicate (m + 1) 0) := (sg2 w3).below ((Below.refl _ (w3.alloc Z2)).alloc (Nat.le_refl _) Z1).drew
    have q2 := sg1 (w3.alloc Z2)
    have r2 := sg2 (w3.alloc Z1)
    rw [World.size_alloc] at q2 r2
    go_region
    · go_wp2_with fail
      go_meet
      case rel => exact ⟨_, _, rfl, rfl, q1, r2.mono (by omega), by omega, by omega, by omega, hB1 _ _⟩
    · go_wp2_with fail
      go_meet
      case rel => exact ⟨_, _, rfl, rfl, q2.mono (by omega), r1, by omega, by omega, by omega, hB1 _ _⟩
  case rest =>
    obtain ⟨bq, br, rfl, rfl, hq, hr, hqr, hq3, hr3, hbc⟩ := hcut
    clear mk1 mk2 sg1 sg2
    have hdn := rdown_yes (xs := xs) (a := a) (cap := ca) (w := wc) (by rw [HN.out]; exact ha3.below hbc) (by rw [HN.out]; omega) (f + 1) (by omega)
    rw [HN.out, show ((f + 1 : Nat) : Int) = (f : Int) + 1 from rfl] at hdn
    go_wp2_with fail
    refine hdn.mono ?_
    rintro e w5 ⟨a5, c5, us, rfl, hs5, hn5, hv5, hl5, hb5⟩
    have husl : us.length ≤ m := len_below hs5.words hn5 (by
      have := val_lt hwt
      rw [HV1.out, HM.out] at this
      rw [hv5]; have := HST.out; omega)
    have hq5 := hq.below hb5
    have hr5 := hr.below hb5
    have hbc5 := hbc.trans (hb5.mono hbc.size)
    obtain ⟨w6, hcp, hs6, ht6⟩ := seg_copy2 hr5 hs5 (by omega) (by omega)
    have hq6 := hq5.turns ht6 hqr
    have hbc6 : Below w3.heap.size w3 w6 := hbc5.trans (ht6.below.mono hr3)
    have HV6 : Hid (val (us ++ (List.replicate (m + 1) 0).drop us.length) = val xs / 2 ^ (f + 1)) := by
      rw [Hid, List.drop_replicate, val_append, val_zeros, hv5]; omega
    clear hdn hv5 hq hr hq5 hr5 hs5 hn5 hl5 hb5
    go_wp2_with (at_builtin; refine Lib.wpList_copy_run _ rfl _ _ 23 23 rfl _ _ rfl rfl hcp ?_)
    clear hcp
    go_loopw [12] (fun i wr => ∃ (t : Nat) (qs rs : List Int), t ≤ f + 1 ∧ i = .int .i64 ((t : Int) - 1) ∧ Seg w3.heap.size wr (.slice (some ⟨bq, 0, none⟩) n n) qs ∧ Seg w3.heap.size wr (.slice (some ⟨br, 0, none⟩) (m + 1) (m + 1)) rs ∧ Hid (∃ Q, 0 ≤ Q ∧ val xs / 2 ^ t = val ys * Q + val rs ∧ val rs < val ys ∧ val qs = Q * 2 ^ t) ∧ Below w3.heap.size w3 wr) (fun i _ => (intOf i + 1).toNat)
    case atStart =>
      refine ⟨f + 1, _, _, Nat.le_refl _, ?_, hq6, hs6, ⟨0, Int.le_refl _, ?_, ?_, ?_⟩, hbc6⟩
      · congr 1; omega
      · rw [HV6.out]; omega
      · rw [HV6.out]; exact HST.out.2
      · rw [val_zeros]; omega
    case round =>
      obtain ⟨t, qs, rs, ht, rfl, hq, hr, HI, hbr⟩ := hrel
      by_cases ht0 : t = 0
      · subst ht0
        rw [show (((0 : Nat) : Int) - 1) = -1 by omega]
        have HQ := hide hq.len.1
        have HR := hide hr.len.1
        have tq := rtrim_any (zs := qs) (a := some ⟨bq, 0, none⟩) (cap := n) (w := wr) (by rw [← HQ.out]; exact hq) (by rw [← HQ.out]; omega)
        have HF : Hid (val qs = val xs / val ys ∧ val rs = val xs % val ys) := by
          obtain ⟨Q, h1, h2, h3, h4⟩ := HI.out
          have h0 := val_nonneg hr.words
          have hB := HB.out
          rw [Int.pow_zero, Int.ediv_one] at h2
          rw [Int.pow_zero, Int.mul_one] at h4
          have := (Int.ediv_emod_unique (a := val xs) (r := val rs) (q := Q) hB).2 ⟨by omega, h0, h3⟩
          exact ⟨by rw [h4, this.1], this.2.symm⟩
        rw [HF.out.1, ← HQ.out] at tq
        go_wp2_with fail
        refine tq.mono ?_
        rintro e w7 ⟨a7, c7, q7, rfl, hs7, hn7, hv7, hl7, hb7⟩
        have HV7 := hide hv7
        have tr := rtrim_any (zs := rs) (a := some ⟨br, 0, none⟩) (cap := m + 1) (w := w7) (by rw [← HR.out]; exact hr.below hb7) (by rw [← HR.out]; omega)
        rw [HF.out.2, ← HR.out] at tr
        clear tq hv7
        go_wp2_with fail
        refine tr.mono ?_
        rintro e w8 ⟨a8, c8, r8, rfl, hs8, hn8, hv8, hl8, hb8⟩
        have HV8 := hide hv8
        have hb37 := hbr.trans (hb7.mono hbr.size)
        have hbw7 := hbw3.trans (hb37.mono hbw3.size)
        clear tr hv8
        go_wp2
        go_ret3
        exact ⟨_, _, _, _, q7, r8, rfl, (hs7.below hb8).mono (Nat.le_trans hbw3.size hbr.size), hs8.mono hbw7.size, hn7, hn8, HV7.out, HV8.out, hl7, by omega, hbw7.trans (hb8.mono hbw7.size)⟩
      · obtain ⟨p, s, hs, rfl⟩ : ∃ p s, s < 64 ∧ t = 64 * p + s + 1 := ⟨(t - 1) / 64, (t - 1) % 64, by omega, by omega⟩
        have hi : (((64 * p + s + 1 : Nat) : Int) - 1) = ((64 * p + s : Nat) : Int) := by omega
        rw [hi]
        clear hi ht0
        have hbit := rbit_any (xs := xs) (a := a) (ca := ca) (w := wr) (by rw [HN.out]; exact ha3.below hbr) (by rw [HN.out]; omega) (64 * p + s) (by omega)
        rw [HN.out] at hbit
        obtain ⟨bt, hbt⟩ : ∃ bt, decide (val xs / 2 ^ (64 * p + s) % 2 = 1) = bt := ⟨_, rfl⟩
        rw [hbt] at hbit
        have HBT : Hid ((bt.toNat : Int) = val xs / 2 ^ (64 * p + s) % 2) := by
          rw [Hid, ← hbt]
          rcases Int.emod_two_eq (val xs / 2 ^ (64 * p + s)) with h | h <;> rw [h] <;> rfl
        clear hbt
        have htw := rtwice_any hr (by omega) bt (by
          obtain ⟨Q, _, _, h3, _⟩ := HI.out
          have a1 := val_lt hwt
          have a2 := pw_pos m
          rw [HV1.out, HM.out] at a1
          rw [pw_succ]; omega)
        rw [show ((64 * p + s : Nat) : Int) = 64 * (p : Int) + (s : Int) by omega] at hbit ⊢
        have hq1 : (64 * (p : Int) + (s : Int)) / 64 = p := by omega
        have hq2 : (64 * (p : Int) + (s : Int)) % 64 = s := by omega
        go_wp2_with fail
        refine hbit.mono ?_
        rintro e w6 ⟨rfl, rfl⟩
        go_wp2_with fail
        refine htw.mono ?_
        rintro e w7 ⟨rs', rfl, hr7, hv7, ht7⟩
        have hq7 := hq.turns ht7 hqr
        have hb7 : Below w3.heap.size w3 w7 := hbr.trans (ht7.below.mono hr3)
        have hs7 := hs3.below hb7
        have HR7 := hide hr7.len.1
        have hcm := rcmp_any (xs := rs') (ys := ts) (a := some ⟨br, 0, none⟩) (ca := m + 1) (b := a1) (cb := c1) (w := w7) (by rw [← HR7.out]; exact hr7) (by rw [HM.out]; exact hs7) (by rw [← HR7.out]; omega) (by rw [HM.out]; omega)
        rw [HV1.out, HM.out, ← HR7.out] at hcm
        have HV7 := hide hv7
        clear htw hbit hv7
        by_cases hge : val ys ≤ val rs'
        · have hcg : 0 ≤ cmpI (val rs') (val ys) := by
            unfold cmpI
            rw [if_neg (by omega)]
            split <;> decide
          have hls := rless_any (ys := ts) (bb := a1) (cb := c1) hr7 (by rw [HM.out]; exact hs7) (by omega) (by rw [HM.out]; omega) (by omega) (by rw [HV1.out]; exact hge)
          rw [HM.out, HV1.out] at hls
          have HGE := hide hge
          clear hge
          go_wp2_with fail
          refine hcm.mono ?_
          rintro e w8 ⟨rfl, rfl⟩
          go_wp2_with fail
          refine hls.mono ?_
          rintro e w9 ⟨rs9, rfl, hr9, hv9, ht9⟩
          have hq9 := hq7.turns ht9 hqr
          have hb9 : Below w3.heap.size w3 w9 := hb7.trans (ht9.below.mono hr3)
          have HQ9 := hide hq9.len.1
          have hpn : p < n := by omega
          obtain ⟨hce, hfr⟩ := hq9.cell (j := p) hpn
          rw [Nat.zero_add] at hce hfr
          have hwq := hq9.words.getD p
          obtain ⟨Q, g1, g2, g3, g4⟩ := HI.out
          obtain ⟨⟨cc, hcc⟩, hset⟩ := set_bit hq9.words (by rw [← HQ9.out]; exact hpn) hs g4
          obtain ⟨eo, hwd⟩ := or_bit _ s hs hwq cc hcc
          have HS := hide (hq9.set (k := p) (by rw [← HQ9.out]; exact hpn) hwd)
          rw [Nat.zero_add, ← eo] at HS
          rw [← eo] at hset
          have hnx := div_next g2
          have HI' : Hid (∃ Q', 0 ≤ Q' ∧ val xs / 2 ^ (64 * p + s) = val ys * Q' + val rs9 ∧ val rs9 < val ys ∧ val (qs.set p (bits .or .u64 (qs[p]?.getD 0) (IntKind.u64.wrap (2 ^ s)))) = Q' * 2 ^ (64 * p + s)) := by
            have := HBT.out
            have v7 := HV7.out
            refine ⟨2 * Q + 1, by omega, ?_, ?_, hset⟩
            · rw [hnx, hv9, v7, Int.mul_add]; omega
            · rw [hv9, v7]; omega
          have HV9 := hide hv9
          have hr9' : Seg w3.heap.size (w9.setCell ⟨bq, p, none⟩ (.int .u64 (bits .or .u64 (qs[p]?.getD 0) (IntKind.u64.wrap (2 ^ s))))) (.slice (some ⟨br, 0, none⟩) (m + 1) (m + 1)) rs9 := hr9.turns ((Turns.refl bq w9).setCell _ _) (Ne.symm hqr)
          have hpi : (p : Int) < (n : Int) := by omega
          clear hls hcm hv9 g1 g2 g3 g4 hcc hset eo hwd hnx hq hr hq7 hr7
          generalize qs[p]?.getD 0 = d at *
          go_wp2
          exact ⟨⟨64 * p + s, _, _, by omega, by congr 1, HS.out, hr9', HI', hb9.setCell (p := ⟨bq, p, none⟩) hq3 _⟩, by simp [intOf]; omega⟩
        · have hcl : ¬ 0 ≤ cmpI (val rs') (val ys) := by rw [cmpI_lt (by omega)]; decide
          have HGE : Hid (val rs' < val ys) := by rw [Hid]; omega
          have HI' : Hid (∃ Q', 0 ≤ Q' ∧ val xs / 2 ^ (64 * p + s) = val ys * Q' + val rs' ∧ val rs' < val ys ∧ val qs = Q' * 2 ^ (64 * p + s)) := by
            obtain ⟨Q, g1, g2, g3, g4⟩ := HI.out
            have hnx := div_next g2
            have := HBT.out
            refine ⟨2 * Q, by omega, ?_, HGE.out, ?_⟩
            · rw [hnx, HV7.out, this]
            · rw [g4, Int.pow_succ, Int.mul_comm 2 Q, Int.mul_assoc, Int.mul_comm 2]
          clear hge
          go_wp2_with fail
          refine hcm.mono ?_
          rintro e w8 ⟨rfl, rfl⟩
          clear hcm
          go_wp2
          exact ⟨⟨64 * p + s, _, _, by omega, by congr 1, hq7, hr7, HI', hb7⟩, by simp [intOf]; omega⟩
set_option maxRecDepth 100000 in
set_option maxHeartbeats 1000000 in
theorem rdiv_short {lo lo' : Nat} {a b : Option Addr} {ca cb : Nat} {xs ys : List Int} {w : World} (ha : Seg lo w (.slice a xs.length ca) xs) (hb : Seg lo' w (.slice b ys.length cb) ys) (hla : xs.length ≤ 4000) (hlb : ys.length ≤ 4000) (hB : 0 < val ys) (hf : blen (val xs) < blen (val ys)) (hf4 : blen (val ys) ≤ 256000) :
    Calls Tryz.prog 100 #[.slice a xs.length ca, .slice b ys.length cb] w fun e w' => ∃ (a1 a2 : Option Addr) (c1 c2 : Nat) (qs rs : List Int), e = .returned (.tuple #[.slice a1 qs.length c1, .slice a2 rs.length c2, .int .i64 0]) ∧ Seg w.heap.size w' (.slice a1 qs.length c1) qs ∧ Seg w.heap.size w' (.slice a2 rs.length c2) rs ∧ Norm qs ∧ Norm rs ∧ val qs = val xs / val ys ∧ val rs = val xs % val ys ∧ qs.length ≤ xs.length ∧ rs.length ≤ ys.length + 1 ∧ Below w.heap.size w w' := by
  have hA := val_nonneg ha.words
  have hlt := blen_less hA hB hf
  have ht := rtrim_any hb (by omega)
  have HD : Hid (val xs / val ys = 0 ∧ val xs % val ys = val xs) := ⟨Int.ediv_eq_zero_of_lt hA hlt, Int.emod_eq_of_lt hA hlt⟩
  have hwy := hb.words
  obtain ⟨bx, hbx⟩ : ∃ bx, blen (val xs) = bx := ⟨_, rfl⟩
  obtain ⟨bl, hbl⟩ : ∃ bl, blen (val ys) = bl := ⟨_, rfl⟩
  rw [hbx, hbl] at hf
  rw [hbl] at hf4
  have HX : Hid (blen (val xs) = bx ∧ blen (val ys) = bl) := ⟨hbx, hbl⟩
  have HLT := hide hlt
  have HB := hide hB
  clear hbx hbl hlt hA hB
  have hlen : Hid (∀ zs : List Int, Words zs → Norm zs → val zs = val xs → zs.length ≤ ys.length + 1) := fun zs hw hn e => by
    have := len_below hw hn (m := ys.length) (by have := val_lt hwy; have := HLT.out; omega)
    omega
  go_enter Tryz.func100, Tryz.ntmps100
  go_wp2_with fail
  refine ht.mono ?_
  rintro e w1 ⟨a1, c1, ts, rfl, hs1, hn1, hv1, hl1, hb1⟩
  have hne : ts ≠ [] := fun e => by
    have := HB.out
    rw [e, val_nil] at hv1
    omega
  have hmz : ((ts.length : Int) == 0) = false := beq_eq_false_iff_ne.2 (by have := List.length_pos_iff.2 hne; omega)
  have HV1 := hide hv1
  have hlA := rlen_any (ha.below hb1) (by omega)
  rw [HX.out.1] at hlA
  clear hv1 hne ht
  go_wp2_with fail
  refine hlA.mono ?_
  rintro e w2 ⟨rfl, hb2⟩
  have hlB := rlen_any (hs1.below hb2) (by omega)
  rw [HV1.out, HX.out.2] at hlB
  clear hlA
  have hb12 := hb1.trans (hb2.mono hb1.size)
  go_wp2_with fail
  refine hlB.mono ?_
  rintro e w3 ⟨rfl, hb3⟩
  have hb13 := hb12.trans (hb3.mono hb12.size)
  have htr := rtrim_any (ha.below hb13) (by omega)
  have hneg : ((bx : Int) - (bl : Int)) < 0 := by omega
  clear hlB
  go_wp2_with fail
  refine htr.mono ?_
  rintro e w4 ⟨a4, c4, zs, rfl, hs4, hn4, hv4, hl4, hb4⟩
  have HV4 := hide hv4
  clear hv4 htr
  go_wp2
  go_ret3
  exact ⟨none, _, 0, _, [], zs, rfl, Seg.nil _ _, hs4.mono hb13.size, norm_nil, hn4, HD.out.1.symm, by rw [HV4.out, HD.out.2], Nat.zero_le _, hlen.out zs hs4.words hn4 HV4.out, hb13.trans (hb4.mono hb13.size)⟩
theorem blen_words_up {zs : List Int} (hw : Words zs) : blen (val zs) ≤ 64 * zs.length := by
  obtain ⟨k, hk, hnk, hvk⟩ := norm_upto (zs := zs) zs.length (Nat.le_refl _) (fun j h1 h2 => by omega)
  have := (blen_len (hw.take k) hnk).2
  rw [hvk, List.length_take] at this
  omega
theorem rdiv_yes {lo lo' : Nat} {a b : Option Addr} {la lb ca cb : Nat} {xs ys : List Int} {w : World} (ha : Seg lo w (.slice a la ca) xs) (hb : Seg lo' w (.slice b lb cb) ys) (hla : xs.length ≤ 4000) (hlb : ys.length ≤ 4000) (hB : 0 < val ys) :
    Calls Tryz.prog 100 #[.slice a la ca, .slice b lb cb] w fun e w' => ∃ (a1 a2 : Option Addr) (c1 c2 : Nat) (qs rs : List Int), e = .returned (.tuple #[.slice a1 qs.length c1, .slice a2 rs.length c2, .int .i64 0]) ∧ Seg w.heap.size w' (.slice a1 qs.length c1) qs ∧ Seg w.heap.size w' (.slice a2 rs.length c2) rs ∧ Norm qs ∧ Norm rs ∧ val qs = val xs / val ys ∧ val rs = val xs % val ys ∧ qs.length ≤ xs.length ∧ rs.length ≤ ys.length + 1 ∧ Below w.heap.size w w' := by
  obtain ⟨rfl, _⟩ := ha.len
  obtain ⟨rfl, _⟩ := hb.len
  have hx := blen_words_up ha.words
  have hy := blen_words_up hb.words
  rcases Nat.lt_or_ge (blen (val xs)) (blen (val ys)) with h | h
  · exact rdiv_short ha hb hla hlb hB h (by omega)
  · exact rdiv_long ha hb hla hlb hB (blen (val xs) - blen (val ys)) (by omega) hx
set_option maxRecDepth 100000 in
set_option maxHeartbeats 1000000 in
theorem rdiv_zero {lo' : Nat} {b : Option Addr} {lb cb : Nat} {ys : List Int} {w : World} (a : Option Addr) (la ca : Nat) (hb : Seg lo' w (.slice b lb cb) ys) (hlb : ys.length ≤ 4000) (hB : val ys = 0) :
    Calls Tryz.prog 100 #[.slice a la ca, .slice b lb cb] w fun e w' => e = .returned (.tuple #[.slice none 0 0, .slice none 0 0, .int .i64 5]) ∧ Below w.heap.size w w' := by
  obtain ⟨rfl, _⟩ := hb.len
  have ht := rtrim_any hb (by omega)
  rw [hB] at ht
  clear hB
  go_enter Tryz.func100, Tryz.ntmps100
  go_wp2_with fail
  refine ht.mono ?_
  rintro e w1 ⟨a1, c1, ts, rfl, hs1, hn1, hv1, hl1, hb1⟩
  obtain rfl : ts = [] := norm_unique hs1.words Words.nil hn1 norm_nil (by rw [hv1, val_nil])
  clear hv1 ht
  go_wp2
  go_ret3
  exact ⟨rfl, hb1⟩
def cellsOf (W : World) : Value → List Int
  | .slice (some a) len _ => (List.range len).map fun j => intOf ((W.cell? ⟨a.block, a.off + j, none⟩).getD (.int .u64 0))
  | _ => []
theorem Seg.cells {lo : Nat} {W : World} {a : Option Addr} {len cap : Nat} {zs : List Int} (h : Seg lo W (.slice a len cap) zs) : cellsOf W (.slice a len cap) = zs := by
  obtain ⟨hl, _⟩ := h.len
  by_cases h0 : len = 0
  · have hz : zs = [] := List.length_eq_zero_iff.1 (by omega)
    rw [hz, h0]
    cases a <;> rfl
  · obtain ⟨b, off, rfl, _, _⟩ := h.row (by omega)
    apply List.ext_getElem
    · simp [cellsOf, hl]
    · intro j h1 h2
      have := (h.cell (j := j) (by omega)).1
      simp [cellsOf, this, intOf, h2]
def gcdI (a b : Int) : Int := (Nat.gcd a.toNat b.toNat : Nat)
theorem gcdI_zero (a : Int) (h : 0 ≤ a) : gcdI a 0 = a := by
  unfold gcdI
  rw [show (0 : Int).toNat = 0 from rfl, Nat.gcd_zero_right]
  omega
theorem gcdI_step {a b : Int} (ha : 0 ≤ a) (hb : 0 < b) : gcdI b (a % b) = gcdI a b := by
  obtain ⟨a, rfl⟩ := Int.eq_ofNat_of_zero_le ha
  obtain ⟨b, rfl⟩ := Int.eq_ofNat_of_zero_le (Int.le_of_lt hb)
  unfold gcdI
  rw [← Int.natCast_emod, Int.toNat_natCast, Int.toNat_natCast, Int.toNat_natCast, Nat.gcd_comm b, ← Nat.gcd_rec, Nat.gcd_comm]
set_option maxRecDepth 100000 in
set_option maxHeartbeats 2000000 in
theorem rgcd_any {lo lo' : Nat} {a b : Option Addr} {la lb ca cb : Nat} {xs ys : List Int} {w : World} (ha : Seg lo w (.slice a la ca) xs) (hb : Seg lo' w (.slice b lb cb) ys) (hla : xs.length ≤ 4000) (hlb : ys.length ≤ 4000) :
    Calls Tryz.prog 76 #[.slice a la ca, .slice b lb cb] w fun e w' => ∃ (a1 : Option Addr) (c1 : Nat) (gs : List Int), e = .returned (.slice a1 gs.length c1) ∧ Seg w.heap.size w' (.slice a1 gs.length c1) gs ∧ Norm gs ∧ val gs = gcdI (val xs) (val ys) ∧ gs.length ≤ max xs.length ys.length ∧ Below w.heap.size w w' := by
  obtain ⟨rfl, _⟩ := ha.len
  obtain ⟨rfl, _⟩ := hb.len
  go_enter Tryz.func76, Tryz.ntmps76
  go_wp2_with fail
  refine (rtrim_any ha (by omega)).mono ?_
  rintro e w1 ⟨a1, c1, ps, rfl, hs1, hn1, hv1, hl1, hb1⟩
  go_wp2_with fail
  refine (rtrim_any (hb.below hb1) (by omega)).mono ?_
  rintro e w2 ⟨a2, c2, ts, rfl, hs2, hn2, hv2, hl2, hb2⟩
  have hb12 := hb1.trans (hb2.mono hb1.size)
  have hs1' := hs1.below hb2
  have hs2' := hs2.mono hb1.size
  have HG : Hid (gcdI (val ps) (val ts) = gcdI (val xs) (val ys)) := by rw [Hid, hv1, hv2]
  clear hv1 hv2 hs1 hs2
  go_wp2
  go_loopw [0, 1] (fun av bv wr => ∃ (a3 a4 : Option Addr) (c3 c4 : Nat) (us vs : List Int), av = .slice a3 us.length c3 ∧ bv = .slice a4 vs.length c4 ∧ Seg w.heap.size wr (.slice a3 us.length c3) us ∧ Seg w.heap.size wr (.slice a4 vs.length c4) vs ∧ Norm us ∧ Norm vs ∧ Hid (gcdI (val us) (val vs) = gcdI (val xs) (val ys)) ∧ us.length ≤ max xs.length ys.length ∧ vs.length ≤ max xs.length ys.length ∧ Below w.heap.size w wr) (fun _ bv wr => (val (cellsOf wr bv)).toNat)
  case atStart => exact ⟨a1, a2, c1, c2, ps, ts, rfl, rfl, hs1', hs2', hn1, hn2, HG, by omega, by omega, hb12⟩
  case round =>
    obtain ⟨a3, a4, c3, c4, us, vs, rfl, rfl, hu, hv, nu, nv, HG, lu, lv, hbr⟩ := hrel
    by_cases h0 : vs = []
    · subst h0
      have hf : gcdI (val us) (val []) = val us := gcdI_zero _ (val_nonneg hu.words)
      have HF : Hid (val us = gcdI (val xs) (val ys)) := by rw [Hid, ← HG.out, hf]
      clear hf
      go_wp2
      go_ret
      exact ⟨_, _, us, rfl, hu, nu, HF.out, lu, hbr⟩
    · have hp := norm_pos hv.words nv h0
      have hl0 : (0 : Int) < (vs.length : Int) := by have := List.length_pos_iff.2 h0; omega
      have hd := rdiv_yes hu hv (by omega) (by omega) hp
      have hm := Int.emod_lt_of_pos (val us) hp
      have hm0 := Int.emod_nonneg (val us) (show val vs ≠ 0 by omega)
      have HS := hide (gcdI_step (val_nonneg hu.words) hp)
      have HCV := hide hv.cells
      have hwv := hv.words
      clear h0
      go_wp2_with fail
      refine hd.mono ?_
      rintro e w3 ⟨a5, a6, c5, c6, qs, rs, rfl, hq, hr, nq, nr, vq, vr, lq, lr, hb3⟩
      have hrl : rs.length ≤ vs.length := len_below hr.words nr (by have := val_lt hwv; rw [vr]; omega)
      have HCR := hide hr.cells
      have HG' : Hid (gcdI (val vs) (val rs) = gcdI (val xs) (val ys)) := by rw [Hid, vr, HS.out, HG.out]
      have HM : Hid (0 ≤ val rs ∧ val rs < val vs) := by rw [Hid, vr]; exact ⟨hm0, hm⟩
      have hv3 := hv.below hb3
      have hr3 := hr.mono hbr.size
      have hb4 := hbr.trans (hb3.mono hbr.size)
      clear hd vq vr hm hm0 hp hq
      go_wp2
      refine ⟨⟨a4, a6, c4, c6, vs, rs, rfl, rfl, hv3, hr3, nv, nr, HG', lv, by omega, hb4⟩, ?_⟩
      rw [HCR.out, HCV.out]
      have := HM.out
      omega
def errZ (b : Int) : Int := if b = 0 then 5 else 0
def remZ (a b : Int) : Int := if b = 0 then 0 else a % b
def dvdB (a b : Int) : Bool := if a = 0 then decide (b = 0) else decide (b % a = 0)
theorem errZ_pos {b : Int} (h : 0 < b) : errZ b = 0 := if_neg (by omega)
theorem remZ_pos (a : Int) {b : Int} (h : 0 < b) : remZ a b = a % b := if_neg (by omega)
theorem remZ_word {a x : Int} (hx : 0 ≤ x ∧ x < 18446744073709551616) : 0 ≤ remZ a x ∧ remZ a x < 18446744073709551616 := by
  unfold remZ
  split
  · decide
  · have := Int.emod_nonneg a (show x ≠ 0 by omega)
    have := Int.emod_lt_of_pos a (show 0 < x by omega)
    omega
def Apart (a1 a2 : Option Addr) (xs ys : List Int) : Prop := xs ≠ [] → ys ≠ [] → ∀ b1 o1 b2 o2, a1 = some ⟨b1, o1, none⟩ → a2 = some ⟨b2, o2, none⟩ → b1 ≠ b2
theorem apart_of {lo hi : Nat} {W : World} {a1 a2 : Option Addr} {n c : Nat} {xs ys : List Int} (h1 : xs ≠ [] → ∀ b o, a1 = some ⟨b, o, none⟩ → b < hi) (S : Seg lo W (.slice a2 n c) ys) (hle : hi ≤ lo) : Apart a1 a2 xs ys := fun hx hy b1 o1 b2 o2 e1 e2 => by
  have a := h1 hx b1 o1 e1
  obtain ⟨hl, _⟩ := S.len
  obtain ⟨b', o', e3, h2, _⟩ := S.row (by rw [hl]; exact List.length_pos_iff.2 hy)
  rw [e2] at e3
  simp only [Option.some.injEq, Addr.mk.injEq] at e3
  omega
theorem apart_nil_left (a1 a2 : Option Addr) (ys : List Int) : Apart a1 a2 [] ys := fun h => absurd rfl h
structure OverT (lo : Nat) (a : Option Addr) (zs : List Int) (w w' : World) : Prop where
  below : Below lo w w'
  other : ∀ k, (zs ≠ [] → ∀ b o, a = some ⟨b, o, none⟩ → k ≠ b) → k < w.heap.size → w'.heap[k]? = w.heap[k]?
theorem rdiv_all {lo lo' : Nat} {a b : Option Addr} {la lb ca cb : Nat} {xs ys : List Int} {w : World} (ha : Seg lo w (.slice a la ca) xs) (hb : Seg lo' w (.slice b lb cb) ys) (hla : xs.length ≤ 4000) (hlb : ys.length ≤ 4000) :
    Calls Tryz.prog 100 #[.slice a la ca, .slice b lb cb] w fun e w' => ∃ (a1 a2 : Option Addr) (c1 c2 : Nat) (qs rs : List Int), e = .returned (.tuple #[.slice a1 qs.length c1, .slice a2 rs.length c2, .int .i64 (errZ (val ys))]) ∧ Seg w.heap.size w' (.slice a1 qs.length c1) qs ∧ Seg w.heap.size w' (.slice a2 rs.length c2) rs ∧ Norm qs ∧ Norm rs ∧ val qs = val xs / val ys ∧ val rs = remZ (val xs) (val ys) ∧ Below w.heap.size w w' := by
  by_cases h : val ys = 0
  · refine (rdiv_zero a la ca hb hlb h).mono ?_
    rintro e w' ⟨rfl, hb⟩
    exact ⟨none, none, 0, 0, [], [], by rw [h]; rfl, Seg.nil _ _, Seg.nil _ _, norm_nil, norm_nil, by rw [h, Int.ediv_zero]; rfl, by rw [h]; rfl, hb⟩
  · have hp : 0 < val ys := by have := val_nonneg hb.words; omega
    refine (rdiv_yes ha hb hla hlb hp).mono ?_
    rintro e w' ⟨a1, a2, c1, c2, qs, rs, rfl, hq, hr, nq, nr, vq, vr, _, _, hb⟩
    exact ⟨a1, a2, c1, c2, qs, rs, by rw [errZ_pos hp], hq, hr, nq, nr, vq, by rw [vr, remZ_pos _ hp], hb⟩
end Go.Proofs.YtejocefblpkdjaaGreat
namespace Go.Proofs.YtejocefblpkdjaaGreat
theorem gcdI_gcd {a b : Int} (ha : 0 ≤ a) (hb : 0 ≤ b) : gcdI a b = (Int.gcd a b : Int) := by
  unfold gcdI Int.gcd
  rw [show a.toNat = a.natAbs by omega, show b.toNat = b.natAbs by omega]
end Go.Proofs.YtejocefblpkdjaaGreat
