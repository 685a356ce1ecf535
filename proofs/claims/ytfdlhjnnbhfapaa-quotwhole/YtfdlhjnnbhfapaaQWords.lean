/-
  What the statements on quotients speak of: errors, rests, common divisors; what OverNat turns.
-/
import Derived.Test.YtfdlhjnnbhfapaaRGcd
import Derived.Test.YtfdlhjnnbhfapaaOwn
import Derived.Test.YtfdlhjnnbhfapaaKit
namespace Go.Proofs.Ytfdlhjnnbhfapaa
open Go.RowKit

/-- 5 (ErrZero) by 0, else 0 (OK). -/
def errZ (b : Int) : Int := if b = 0 then 5 else 0
/-- What is left; by 0 nothing is told. -/
def remZ (a b : Int) : Int := if b = 0 then 0 else a % b
/-- Whether one number divides another one. -/
def dvdB (a b : Int) : Bool := if a = 0 then decide (b = 0) else decide (b % a = 0)
theorem errZ_zero : errZ 0 = 5 := rfl
theorem errZ_pos {b : Int} (h : 0 < b) : errZ b = 0 := if_neg (by omega)
theorem remZ_zero (a : Int) : remZ a 0 = 0 := rfl
theorem remZ_pos (a : Int) {b : Int} (h : 0 < b) : remZ a b = a % b := if_neg (by omega)
theorem remZ_word {a x : Int} (hx : 0 ≤ x ∧ x < 18446744073709551616) : 0 ≤ remZ a x ∧ remZ a x < 18446744073709551616 := by
  unfold remZ
  split
  · decide
  · have := Int.emod_nonneg a (show x ≠ 0 by omega)
    have := Int.emod_lt_of_pos a (show 0 < x by omega)
    omega
/-- Two lists share no block. -/
def Apart (a1 a2 : Option Addr) (xs ys : List Int) : Prop := xs ≠ [] → ys ≠ [] → ∀ b1 o1 b2 o2, a1 = some ⟨b1, o1, none⟩ → a2 = some ⟨b2, o2, none⟩ → b1 ≠ b2
theorem apart_of {lo hi : Nat} {W : World} {a1 a2 : Option Addr} {n c : Nat} {xs ys : List Int} (h1 : xs ≠ [] → ∀ b o, a1 = some ⟨b, o, none⟩ → b < hi) (S : Seg lo W (.slice a2 n c) ys) (hle : hi ≤ lo) : Apart a1 a2 xs ys := fun hx hy b1 o1 b2 o2 e1 e2 => by
  have a := h1 hx b1 o1 e1
  obtain ⟨hl, _⟩ := S.len
  obtain ⟨b', o', e3, h2, _⟩ := S.row (by rw [hl]; exact List.length_pos_iff.2 hy)
  rw [e2] at e3
  simp only [Option.some.injEq, Addr.mk.injEq] at e3
  omega
theorem apart_nil_left (a1 a2 : Option Addr) (ys : List Int) : Apart a1 a2 [] ys := fun h => absurd rfl h
theorem apart_nil_right (a1 a2 : Option Addr) (xs : List Int) : Apart a1 a2 xs [] := fun _ h => absurd rfl h
/-- What OverNat of a list does to memory. -/
structure OverT (lo : Nat) (a : Option Addr) (zs : List Int) (w w' : World) : Prop where
  below : Below lo w w'
  other : ∀ k, (zs ≠ [] → ∀ b o, a = some ⟨b, o, none⟩ → k ≠ b) → k < w.heap.size → w'.heap[k]? = w.heap[k]?
theorem Seg.overt {lo lo2 : Nat} {w w' : World} {a a2 : Option Addr} {n c : Nat} {zs ys : List Int} (h : Seg lo2 w (.slice a2 n c) ys) (ht : OverT lo a zs w w') (hd : Apart a a2 zs ys) : Seg lo2 w' (.slice a2 n c) ys := by
  obtain ⟨hw, a', cap', e, h1, h3⟩ := h
  refine ⟨hw, a', cap', e, h1, fun hz => ?_⟩
  obtain ⟨g, o, e1, e2, e3, e4, e5⟩ := h3 hz
  simp only [Value.slice.injEq] at e
  have ea : a2 = some ⟨g, o, none⟩ := e.1.trans e1
  have hk := ht.other g (fun hzs b ob eb => fun eg => hd hzs hz b ob g o eb ea eg.symm) e3
  exact ⟨g, o, e1, e2, Nat.lt_of_lt_of_le e3 ht.below.size, fun j hj => (World.cell?_of_block (a := ⟨g, o + j, none⟩) hk).trans (e4 j hj), fun j hj => (World.frozen?_of_block (a := ⟨g, o + j, none⟩) hk).trans (e5 j hj)⟩

set_option maxRecDepth 100000 in
set_option maxHeartbeats 1000000 in
/-- OverNat(n): other words in n's own memory; no other block turns. -/
theorem over_ot {lo : Nat} {a : Option Addr} {cap : Nat} {zs : List Int} {w : World} (h : Seg lo w (.slice a zs.length cap) zs) (hl : zs.length ≤ 1000000) :
    Calls Try.prog 19 #[.slice a zs.length cap] w fun e w' => e = .returned (.tuple #[]) ∧ OverT lo a zs w w' := by
  by_cases hz : zs = []
  · subst hz
    refine (over_fr h hl 0 (fun h => absurd rfl h)).mono ?_
    rintro e w' ⟨rfl, hb, hh⟩
    exact ⟨rfl, hb, fun k _ _ => hh k (Nat.zero_le _)⟩
  · obtain ⟨b, off, rfl, hlb, hbw⟩ := h.row (List.length_pos_iff.2 hz)
    have HZ := hide hz
    obtain ⟨len, hlen⟩ : ∃ len, zs.length = len := ⟨_, rfl⟩
    rw [hlen] at h hl ⊢
    clear hlen hz
    go_enter Try.func19, Try.ntmps19
    go_wp2
    go_loopw [2] (fun i wr => ∃ (k : Nat) (ss : List Int), k ≤ len ∧ i = .int .i64 k ∧ Seg lo wr (.slice (some ⟨b, off, none⟩) len cap) ss ∧ Turns b w wr) (fun i _ => len - (intOf i).toNat)
    case atStart => exact ⟨0, zs, Nat.zero_le _, rfl, h, Turns.refl _ _⟩
    case round =>
      obtain ⟨k, ss, hk, rfl, hss, htr⟩ := hrel
      by_cases hkl : k < len
      · obtain ⟨hc, hf⟩ := hss.cell (j := k) hkl
        have hw := hss.words.getD k
        have HS := hide (hss.set (k := k) (by rw [← hss.len.1]; exact hkl) (x := bits .xor .u64 (ss[k]?.getD 0) 2779096485) (xor_word _ hw))
        have hki : (k : Int) < (len : Int) := by omega
        clear hw
        generalize ss[k]?.getD 0 = x at *
        go_wp2
        exact ⟨⟨k + 1, _, by omega, by go_num, HS.out, htr.setCell _ _⟩, by simp [intOf]; omega⟩
      · go_wp2
        go_end0
        exact ⟨rfl, htr.below.mono hlb, fun k hk hkw => htr.other k (fun e => hk HZ.out b off rfl e) hkw⟩
theorem rdiv_all {lo lo' : Nat} {a b : Option Addr} {la lb ca cb : Nat} {xs ys : List Int} {w : World} (ha : Seg lo w (.slice a la ca) xs) (hb : Seg lo' w (.slice b lb cb) ys) (hla : xs.length ≤ 4000) (hlb : ys.length ≤ 4000) :
    Calls Try.prog 13 #[.slice a la ca, .slice b lb cb] w fun e w' => ∃ (a1 a2 : Option Addr) (c1 c2 : Nat) (qs rs : List Int), e = .returned (.tuple #[.slice a1 qs.length c1, .slice a2 rs.length c2, .int .i64 (errZ (val ys))]) ∧ Seg w.heap.size w' (.slice a1 qs.length c1) qs ∧ Seg w.heap.size w' (.slice a2 rs.length c2) rs ∧ Norm qs ∧ Norm rs ∧ val qs = val xs / val ys ∧ val rs = remZ (val xs) (val ys) ∧ Below w.heap.size w w' := by
  by_cases h : val ys = 0
  · refine (rdiv_zero a la ca hb hlb h).mono ?_
    rintro e w' ⟨rfl, hb⟩
    exact ⟨none, none, 0, 0, [], [], by rw [h]; rfl, Seg.nil _ _, Seg.nil _ _, norm_nil, norm_nil, by rw [h, Int.ediv_zero]; rfl, by rw [h]; rfl, hb⟩
  · have hp : 0 < val ys := by have := val_nonneg hb.words; omega
    refine (rdiv_yes ha hb hla hlb hp).mono ?_
    rintro e w' ⟨a1, a2, c1, c2, qs, rs, rfl, hq, hr, nq, nr, vq, vr, _, _, hb⟩
    exact ⟨a1, a2, c1, c2, qs, rs, by rw [errZ_pos hp], hq, hr, nq, nr, vq, by rw [vr, remZ_pos _ hp], hb⟩
theorem rpart_all {lo : Nat} {a : Option Addr} {la ca : Nat} {xs : List Int} {w : World} (ha : Seg lo w (.slice a la ca) xs) (hla : xs.length ≤ 4000) (x : Int) (hx : 0 ≤ x ∧ x < 18446744073709551616) :
    Calls Try.prog 15 #[.slice a la ca, .int .u64 x] w fun e w' => ∃ (a1 : Option Addr) (c1 : Nat) (qs : List Int), e = .returned (.tuple #[.slice a1 qs.length c1, .int .u64 (remZ (val xs) x), .int .i64 (errZ x)]) ∧ Seg w.heap.size w' (.slice a1 qs.length c1) qs ∧ Norm qs ∧ val qs = val xs / x ∧ Below w.heap.size w w' := by
  by_cases h : x = 0
  · subst h
    refine (rpart_zero a la ca w).mono ?_
    rintro e w' ⟨rfl, hb⟩
    exact ⟨none, 0, [], rfl, Seg.nil _ _, norm_nil, by rw [Int.ediv_zero]; rfl, hb⟩
  · have hp : 0 < x := by omega
    refine (rpart_yes ha hla x ⟨hp, hx.2⟩).mono ?_
    rintro e w' ⟨a1, c1, qs, rfl, hq, nq, vq, _, hb⟩
    exact ⟨a1, c1, qs, by rw [errZ_pos hp, remZ_pos _ hp], hq, nq, vq, hb⟩
theorem rdivides_any {lo lo' : Nat} {a b : Option Addr} {la lb ca cb : Nat} {xs ys : List Int} {w : World} (ha : Seg lo w (.slice a la ca) xs) (hb : Seg lo' w (.slice b lb cb) ys) (hla : xs.length ≤ 4000) (hlb : ys.length ≤ 4000) :
    Calls Try.prog 18 #[.slice a la ca, .slice b lb cb] w fun e w' => e = .returned (.bool (dvdB (val xs) (val ys))) ∧ Below w.heap.size w w' := by
  unfold dvdB
  by_cases h : val xs = 0
  · rw [if_pos h]; exact rdivides_zero ha hb hla hlb h
  · rw [if_neg h]; exact rdivides_yes ha hb hla hlb (by have := val_nonneg ha.words; omega)
end Go.Proofs.Ytfdlhjnnbhfapaa
