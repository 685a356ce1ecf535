/-
  The walk of the program's Sub.
-/
import Derived.Test.YtejocefblpkdjabGreatJCmp
import Derived.Test.YtejocefblpkdjabGreatJWiden
import Derived.Deep.RegionWith
import Derived.Deep.LoopGhost
namespace Go.Proofs.YtejocefblpkdjabGreat
open Go.RowKit

/-- The borrow, under a name. -/
def bor (x y : Int) : Int := if x < y then 1 else 0
theorem bor_01 (x y : Int) : 0 ≤ bor x y ∧ bor x y ≤ 1 := by unfold bor; split <;> decide
theorem sub64b (x y b : Int) (hx : 0 ≤ x) (hy : 0 ≤ y) (hy' : y < 18446744073709551616) (hb0 : 0 ≤ b) (hb : b ≤ 1) (w : World) : (callFunc 106 #[.int .u64 x, .int .u64 y, .int .u64 b]).run Tryz.prog w =
    .ok (.value (.tuple #[.int .u64 ((x - y - b) % 18446744073709551616), .int .u64 (bor x (y + b))])) w := sub64 x y b hx hy hy' hb0 hb w
/-- A difference's last borrow comes ahead of its end. -/
theorem sub_room {xs ys ss : List Int} {n m k : Nat} {c : Int} (_hx : Words xs) (_hy : Words ys) (hs : Words ss) (hn : ss.length = n) (hm : ys.length = m) (hmn : m ≤ n) (hk : k ≤ n) (hc : 0 ≤ c) (h : k < m ∨ c ≠ 0) (hle : val ys ≤ val xs)
    (e : val ss - pw k * (c + val (ys.drop k)) = val xs - val ys) : k < n := by
  rcases Nat.lt_or_ge k n with h1 | h1
  · exact h1
  · exfalso
    obtain rfl : k = n := by omega
    have a := val_lt hs
    rw [hn] at a
    have q := pw_pos k
    rw [List.drop_eq_nil_of_le (by omega), val_nil] at e
    have : pw k * 1 ≤ pw k * (c + 0) := Int.mul_le_mul_of_nonneg_left (by omega) (by omega)
    omega

set_option maxRecDepth 100000 in
set_option maxHeartbeats 4000000 in
/-- Sub(a, b), where b is not greater. -/
theorem sub_yes {lo lo' : Nat} {sa sb : Value} {xs ys : List Int} {w : World} (ha : Seg lo w sa xs) (hb : Seg lo' w sb ys) (hla : xs.length ≤ 10000) (hlb : ys.length ≤ 10000) (hle : val ys ≤ val xs) :
    Calls Tryz.prog 101 #[sa, sb] w fun e w' => ∃ (a : Option Addr) (cap : Nat) (zs : List Int), e = .returned (.tuple #[.slice a zs.length cap, .int .i64 0]) ∧ Seg w.heap.size w' (.slice a zs.length cap) zs ∧ Norm zs ∧ val zs = val xs - val ys ∧ zs.length ≤ xs.length ∧ Below w.heap.size w w' := by
  obtain ⟨ab, cb, rfl⟩ : ∃ ab cb, sb = .slice ab ys.length cb := by obtain ⟨_, a, cap, e, _⟩ := hb; exact ⟨a, cap, e⟩
  go_enter Tryz.func101, Tryz.ntmps101
  go_wp2_with fail
  refine (cmp_any ha hb hla hlb).mono ?_
  rintro e w0 ⟨rfl, hb0⟩
  have hcm : ¬ cmpI (val xs) (val ys) < 0 := by
    unfold cmpI
    split
    · omega
    · split <;> omega
  replace ha := ha.below hb0
  replace hb := hb.below hb0
  have HLE0 := hide hle
  clear hle
  go_wp2_with fail
  refine (bare_any ha (by omega)).mono ?_
  rintro e w1 ⟨a1, cap1, xs1, rfl, hs1, hn1, hv1, hl1, hb1⟩
  go_wp2_with fail
  refine (bare_any (hb.below hb1) (by omega)).mono ?_
  rintro e w2 ⟨a2, cap2, ys2, rfl, hs2, hn2, hv2, hl2, hb2⟩
  replace hs1 := hs1.below hb2
  have hb12 : Below w.heap.size w w2 := hb0.trans ((hb1.trans (hb2.mono hb1.size)).mono hb0.size)
  have HV : Hid (val xs1 = val xs ∧ val ys2 = val ys) := ⟨hv1, hv2⟩
  have HLE : Hid (val ys2 ≤ val xs1) := by have := HLE0.out; rw [Hid]; omega
  have hlt : ¬ xs1.length < ys2.length := fun h => by
    have := norm_lt hs1.words hs2.words hn2 h
    have := HLE.out
    omega
  clear hv1 hv2 hb2 hb1 ha hb HLE0
  go_wp2_with fail
  refine (widen_any hs1 xs1.length (Nat.le_refl _) (by omega)).mono ?_
  rintro e w3 ⟨a3, cap3, rfl, hs3, hb3⟩
  rw [Nat.sub_self, List.replicate_zero, List.append_nil] at hs3
  have hwx := hs1.words
  have hwy := hs2.words
  obtain ⟨n, hn⟩ : ∃ n, xs1.length = n := ⟨_, rfl⟩
  obtain ⟨m, hm⟩ : ∃ m, ys2.length = m := ⟨_, rfl⟩
  rw [hn] at hs3 ⊢
  rw [hm] at hs2 ⊢
  have hmn : m ≤ n := by omega
  have hn10 : n ≤ 10000 := by omega
  have hnl : n ≤ xs.length := by omega
  have HN : Hid (xs1.length = n ∧ ys2.length = m) := ⟨hn, hm⟩
  clear hn hm hl1 hl2
  go_wp2
  go_loopw [7, 8] (fun i c wr => ∃ (k : Nat) (cv : Int) (ss : List Int), k ≤ n ∧ i = .int .i64 k ∧ c = .int .u64 cv ∧ 0 ≤ cv ∧ cv ≤ 1 ∧ Seg w2.heap.size wr (.slice a3 n cap3) ss ∧ Hid (val ss - pw k * (cv + val (ys2.drop k)) = val xs1 - val ys2) ∧ Below w2.heap.size w2 wr) (fun i _ _ => n + 2 - (intOf i).toNat)
  case atStart =>
    refine ⟨0, 0, _, Nat.zero_le _, rfl, rfl, by omega, by omega, hs3, ?_, hb3⟩
    rw [Hid, pw_zero, List.drop_zero]; omega
  case round =>
    obtain ⟨k, cv, ss, hk, rfl, rfl, hc0, hc1, hss, HE, hbr⟩ := hrel
    have hsr := hs2.below hbr
    have HL := hide hss.len.1
    have hws := hss.words
    have hwk := hws.getD k
    have hyk := hwy.getD k
    by_cases hgo : k < m ∨ cv ≠ 0
    · have hkn : k < n := sub_room hwx hwy hws (HL.out.symm) HN.out.2 hmn hk hc0 hgo HLE.out HE.out
      obtain ⟨g, off, rfl, hg1, _⟩ := hss.row (by omega)
      obtain ⟨hce, hfr⟩ := hss.cell (j := k) (by omega)
      have H1 := hide (sub_step (ss := ss) (k := k) (by have := HL.out; omega) hwk hyk ⟨hc0, hc1⟩ HE.out)
      have hki : (k : Int) < (n : Int) := by omega
      have hbo := bor_01 (ss[k]?.getD 0) (ys2[k]?.getD 0 + cv)
      clear hws hwx hwy
      by_cases hkm : k < m
      · clear hgo
        go_wp2_with fail
        go_region_with
          (first
            | (go_at_call 65; refine (digit_any (by exact hsr) k).mono ?_; rintro e w' ⟨rfl, rfl⟩)
            | simp only [sub64b _ _ _ hwk.1 hyk.1 hyk.2 hc0 hc1])
        all_goals
          go_wp2
          go_roundw
          case rel =>
            refine ⟨k + 1, _, _, by omega, by go_num, rfl, hbo.1, hbo.2, (hss.drew).set (k := k) (by have := HL.out; omega) ⟨by omega, by omega⟩, H1, ?_⟩
            exact hbr.drew.setCell (p := ⟨g, off + k, none⟩) hg1 _
          case measure => simp [intOf]; omega
      · have hcb : (cv != 0) = true := by have := hgo.resolve_left hkm; simpa using this
        clear hgo
        go_wp2_with fail
        go_region_with
          (first
            | (go_at_call 65; refine (digit_any (by exact hsr) k).mono ?_; rintro e w' ⟨rfl, rfl⟩)
            | simp only [sub64b _ _ _ hwk.1 hyk.1 hyk.2 hc0 hc1])
        all_goals
          go_wp2
          go_roundw
          case rel =>
            refine ⟨k + 1, _, _, by omega, by go_num, rfl, hbo.1, hbo.2, (hss.drew).set (k := k) (by have := HL.out; omega) ⟨by omega, by omega⟩, H1, ?_⟩
            exact hbr.drew.setCell (p := ⟨g, off + k, none⟩) hg1 _
          case measure => simp [intOf]; omega
    · have hkm : ¬ k < m := fun h => hgo (.inl h)
      have hcz : cv = 0 := Classical.byContradiction fun h => hgo (.inr h)
      subst hcz
      clear hgo
      go_wp2_with fail
      have hss' : Seg w2.heap.size wr (.slice a3 n cap3) ss := hss
      refine (bare_any hss' (by have := HL.out; omega)).mono ?_
      rintro e w4 ⟨a4, cap4, zs, rfl, hs4, hn4, hv4, hl4, hb4⟩
      have hfin : val zs = val xs - val ys := by
        have := HE.out
        rw [List.drop_eq_nil_of_le (by have := HN.out.2; omega), val_nil] at this
        have := HV.out
        omega
      have HF := hide hfin
      have HL4 : Hid (zs.length ≤ n) := by have := HL.out; rw [Hid]; omega
      clear hfin hv4 hl4 hws hwx hwy
      go_wp2
      go_ret2
      exact ⟨_, _, zs, rfl, hs4.mono hb12.size, hn4, HF.out, by have := HL4.out; omega, hb12.trans ((hbr.trans (hb4.mono hbr.size)).mono hb12.size)⟩

end Go.Proofs.YtejocefblpkdjabGreat
