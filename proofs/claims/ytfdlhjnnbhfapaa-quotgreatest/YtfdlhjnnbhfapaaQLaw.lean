/-
  What quot's answers come to, told for the statements; the statements' own helper that divides.
-/
import Derived.Test.YtfdlhjnnbhfapaaQuotC
import Derived.Test.YtfdlhjnnbhfapaaLit
import Derived.Test.YtfdlhjnnbhfapaaAdd
import Derived.Test.YtfdlhjnnbhfapaaCmp
import Derived.Test.YtfdlhjnnbhfapaaEnds
namespace Go.Proofs.Ytfdlhjnnbhfapaa
open Go.RowKit

theorem ediv_len {xs qs : List Int} {b : Int} (hx : Words xs) (hq : Words qs) (nq : Norm qs) (e : val qs = val xs / b) : qs.length ≤ xs.length := by
  refine len_below hq nq ?_
  have a := val_lt hx
  have c := val_nonneg hx
  have := Int.ediv_le_self b c
  omega
theorem emod_len {ys rs : List Int} {a : Int} (hy : Words ys) (hr : Words rs) (nr : Norm rs) (hb : 0 < val ys) (e : val rs = a % val ys) : rs.length ≤ ys.length := by
  refine len_below hr nr ?_
  have := val_lt hy
  have := Int.emod_lt_of_pos a hb
  omega
theorem gcdI_nonneg (a b : Int) : 0 ≤ gcdI a b := by unfold gcdI; omega
theorem gcdI_comm (a b : Int) : gcdI a b = gcdI b a := by unfold gcdI; rw [Nat.gcd_comm]
theorem gcdI_le {a b : Int} (ha : 0 ≤ a) (hb : 0 ≤ b) : gcdI a b ≤ max a b := by
  obtain ⟨a, rfl⟩ := Int.eq_ofNat_of_zero_le ha
  obtain ⟨b, rfl⟩ := Int.eq_ofNat_of_zero_le hb
  unfold gcdI
  rw [Int.toNat_natCast, Int.toNat_natCast]
  by_cases h : a = 0
  · subst h; rw [Nat.gcd_zero_left]; omega
  · have := Nat.gcd_le_left b (show 0 < a by omega)
    omega
theorem gcd_len {xs ys gs : List Int} (hx : Words xs) (hy : Words ys) (hg : Words gs) (ng : Norm gs) (e : val gs = gcdI (val xs) (val ys)) : gs.length ≤ max xs.length ys.length := by
  refine len_below hg ng ?_
  have a := val_lt hx
  have b := val_lt hy
  have c := gcdI_le (val_nonneg hx) (val_nonneg hy)
  have d := pw_mono (m := xs.length) (n := max xs.length ys.length) (by omega)
  have f := pw_mono (m := ys.length) (n := max xs.length ys.length) (by omega)
  omega

theorem qdiv_yes {lo lo' : Nat} {a b : Option Addr} {la lb ca cb : Nat} {xs ys : List Int} {w : World} (ha : Seg lo w (.slice a la ca) xs) (hb : Seg lo' w (.slice b lb cb) ys) (hla : xs.length ≤ 1000) (hlb : ys.length ≤ 1000) (hB : 0 < val ys) :
    Calls Try.prog 12 #[.slice a la ca, .slice b lb cb] w fun e w' => ∃ (a1 a2 : Option Addr) (c1 c2 : Nat) (qs rs : List Int), e = .returned (.tuple #[.slice a1 qs.length c1, .slice a2 rs.length c2, .int .i64 0]) ∧ Seg w.heap.size w' (.slice a1 qs.length c1) qs ∧ Seg w.heap.size w' (.slice a2 rs.length c2) rs ∧ Norm qs ∧ Norm rs ∧ val qs = val xs / val ys ∧ val rs = val xs % val ys ∧ qs.length ≤ xs.length ∧ rs.length ≤ ys.length ∧ Below w.heap.size w w' := by
  refine (qdiv_all ha hb hla hlb).mono ?_
  rintro e w' ⟨a1, a2, c1, c2, qs, rs, rfl, hq, hr, nq, nr, vq, vr, _, hb'⟩
  rw [remZ_pos _ hB] at vr
  exact ⟨a1, a2, c1, c2, qs, rs, by rw [errZ_pos hB], hq, hr, nq, nr, vq, vr, ediv_len ha.words hq.words nq vq, emod_len hb.words hr.words nr hB vr, hb'⟩
theorem qdiv_zero {lo lo' : Nat} {a b : Option Addr} {la lb ca cb : Nat} {xs ys : List Int} {w : World} (ha : Seg lo w (.slice a la ca) xs) (hb : Seg lo' w (.slice b lb cb) ys) (hla : xs.length ≤ 1000) (hlb : ys.length ≤ 1000) (hB : val ys = 0) :
    Calls Try.prog 12 #[.slice a la ca, .slice b lb cb] w fun e w' => ∃ (a1 a2 : Option Addr) (c1 c2 : Nat), e = .returned (.tuple #[.slice a1 0 c1, .slice a2 0 c2, .int .i64 5]) ∧ Below w.heap.size w w' := by
  refine (qdiv_all ha hb hla hlb).mono ?_
  rintro e w' ⟨a1, a2, c1, c2, qs, rs, rfl, hq, hr, nq, nr, vq, vr, _, hb'⟩
  rw [hB] at vq vr
  obtain rfl : qs = [] := norm_unique hq.words Words.nil nq norm_nil (by rw [vq, Int.ediv_zero]; rfl)
  obtain rfl : rs = [] := norm_unique hr.words Words.nil nr norm_nil (by rw [vr]; rfl)
  exact ⟨a1, a2, c1, c2, by rw [hB]; rfl, hb'⟩
theorem qpart_yes {lo : Nat} {a : Option Addr} {la ca : Nat} {xs : List Int} {w : World} (ha : Seg lo w (.slice a la ca) xs) (hla : xs.length ≤ 1000) (x : Int) (hx : 0 < x ∧ x < 18446744073709551616) :
    Calls Try.prog 14 #[.slice a la ca, .int .u64 x] w fun e w' => ∃ (a1 : Option Addr) (c1 : Nat) (qs : List Int), e = .returned (.tuple #[.slice a1 qs.length c1, .int .u64 (val xs % x), .int .i64 0]) ∧ Seg w.heap.size w' (.slice a1 qs.length c1) qs ∧ Norm qs ∧ val qs = val xs / x ∧ qs.length ≤ xs.length ∧ Below w.heap.size w w' := by
  refine (qpart_all ha hla x ⟨Int.le_of_lt hx.1, hx.2⟩).mono ?_
  rintro e w' ⟨a1, c1, qs, rfl, hq, nq, vq, hb'⟩
  exact ⟨a1, c1, qs, by rw [errZ_pos hx.1, remZ_pos _ hx.1], hq, nq, vq, ediv_len ha.words hq.words nq vq, hb'⟩
theorem qpart_zero {lo : Nat} {a : Option Addr} {la ca : Nat} {xs : List Int} {w : World} (ha : Seg lo w (.slice a la ca) xs) (hla : xs.length ≤ 1000) :
    Calls Try.prog 14 #[.slice a la ca, .int .u64 0] w fun e w' => ∃ (a1 : Option Addr) (c1 : Nat), e = .returned (.tuple #[.slice a1 0 c1, .int .u64 0, .int .i64 5]) ∧ Below w.heap.size w w' := by
  refine (qpart_all ha hla 0 (by decide)).mono ?_
  rintro e w' ⟨a1, c1, qs, rfl, hq, nq, vq, hb'⟩
  obtain rfl : qs = [] := norm_unique hq.words Words.nil nq norm_nil (by rw [vq, Int.ediv_zero]; rfl)
  exact ⟨a1, c1, rfl, hb'⟩
theorem qgcd_len {lo lo' : Nat} {a b : Option Addr} {la lb ca cb : Nat} {xs ys : List Int} {w : World} (ha : Seg lo w (.slice a la ca) xs) (hb : Seg lo' w (.slice b lb cb) ys) (hla : xs.length ≤ 1000) (hlb : ys.length ≤ 1000) :
    Calls Try.prog 21 #[.slice a la ca, .slice b lb cb] w fun e w' => ∃ (a1 : Option Addr) (c1 : Nat) (gs : List Int), e = .returned (.slice a1 gs.length c1) ∧ Seg w.heap.size w' (.slice a1 gs.length c1) gs ∧ Norm gs ∧ val gs = gcdI (val xs) (val ys) ∧ gs.length ≤ max xs.length ys.length ∧ Below w.heap.size w w' := by
  refine (qgcd_any ha hb hla hlb).mono ?_
  rintro e w' ⟨a1, c1, gs, rfl, hg, ng, vg, hb'⟩
  exact ⟨a1, c1, gs, rfl, hg, ng, vg, gcd_len ha.words hb.words hg.words ng vg, hb'⟩

set_option maxRecDepth 100000 in
set_option maxHeartbeats 1000000 in
/-- divides(a, b, want, left), where it is so. -/
theorem ldiv_yes {l1 l2 l3 l4 : Nat} {a b c d : Option Addr} {la lb lc ld ca cb cc cd : Nat} {xs ys ws ls : List Int} {w : World} (ha : Seg l1 w (.slice a la ca) xs) (hb : Seg l2 w (.slice b lb cb) ys) (hw : Seg l3 w (.slice c lc cc) ws) (hl : Seg l4 w (.slice d ld cd) ls)
    (hla : xs.length ≤ 1000) (hlb : ys.length ≤ 1000) (hB : 0 < val ys) (nw : Norm ws) (nl : Norm ls) (vw : val ws = val xs / val ys) (vl : val ls = val xs % val ys) :
    Calls Try.prog 23 #[.slice a la ca, .slice b lb cb, .slice c lc cc, .slice d ld cd] w fun e w' => e = .returned (.bool true) ∧ Below w.heap.size w w' := by
  have VW := hide vw
  have VL := hide vl
  have hd := qdiv_yes ha hb hla hlb hB
  clear vw vl hB
  go_enter Try.func23, Try.ntmps23
  go_wp2_with fail
  refine hd.mono ?_
  rintro e w1 ⟨a1, a2, c1, c2, qs, rs, rfl, hq, hr, nq, nr, vq, vr, lq, lr, hb1⟩
  have EQ : Hid (qs = ws) := norm_unique hq.words hw.words nq nw (by rw [vq, VW.out])
  have ER : Hid (rs = ls) := norm_unique hr.words hl.words nr nl (by rw [vr, VL.out])
  clear hd vq vr
  go_wp2_with fail
  refine (same_len hq (hw.below hb1) EQ.out (by omega)).mono ?_
  rintro e w2 ⟨rfl, hb2⟩
  go_wp2_with fail
  refine (same_len (hr.below hb2) ((hl.below hb1).below hb2) ER.out (by omega)).mono ?_
  rintro e w3 ⟨rfl, hb3⟩
  have hb12 := hb1.trans (hb2.mono hb1.size)
  go_wp2
  go_ret
  exact ⟨rfl, hb12.trans (hb3.mono hb12.size)⟩
end Go.Proofs.Ytfdlhjnnbhfapaa
