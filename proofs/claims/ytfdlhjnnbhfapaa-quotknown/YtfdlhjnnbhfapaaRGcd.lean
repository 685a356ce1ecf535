/-
  The walks of the document's Part, Gcd, Divides.
-/
import Derived.Test.YtfdlhjnnbhfapaaRDiv
namespace Go.Proofs.Ytfdlhjnnbhfapaa
open Go.RowKit

/-- What a slice value of words holds. -/
def cellsOf (W : World) : Value → List Int
  | .slice (some a) len _ => (List.range len).map fun j => intOf ((W.cell? ⟨a.block, a.off + j, none⟩).getD (.int .u64 0))
  | _ => []
theorem Seg.cells {lo : Nat} {W : World} {a : Option Addr} {len cap : Nat} {zs : List Int} (h : Seg lo W (.slice a len cap) zs) : cellsOf W (.slice a len cap) = zs := by
  obtain ⟨hl, _⟩ := h.len
  by_cases h0 : len = 0
  · have hz : zs = [] := List.length_eq_zero_iff.1 (by omega)
    rw [hz, h0]
    cases a <;> rfl
  · obtain ⟨b, off, rfl, _, _⟩ := h.row (by omega)
    apply List.ext_getElem
    · simp [cellsOf, hl]
    · intro j h1 h2
      have := (h.cell (j := j) (by omega)).1
      simp [cellsOf, this, intOf, h2]
theorem len_zero {zs : List Int} (hw : Words zs) (hn : Norm zs) : ((zs.length : Int) == 0) = decide (val zs = 0) := by
  by_cases h : zs = []
  · subst h; rfl
  · have a := norm_pos hw hn h
    have b := List.length_pos_iff.2 h
    rw [decide_eq_false (by omega)]
    exact beq_eq_false_iff_ne.2 (by omega)

set_option maxRecDepth 100000 in
set_option maxHeartbeats 1000000 in
/-- The document's Part, by a digit that is not 0. -/
theorem rpart_yes {lo : Nat} {a : Option Addr} {la ca : Nat} {xs : List Int} {w : World} (ha : Seg lo w (.slice a la ca) xs) (hla : xs.length ≤ 4000) (x : Int) (hx : 0 < x ∧ x < 18446744073709551616) :
    Calls Try.prog 15 #[.slice a la ca, .int .u64 x] w fun e w' => ∃ (a1 : Option Addr) (c1 : Nat) (qs : List Int), e = .returned (.tuple #[.slice a1 qs.length c1, .int .u64 (val xs % x), .int .i64 0]) ∧ Seg w.heap.size w' (.slice a1 qs.length c1) qs ∧ Norm qs ∧ val qs = val xs / x ∧ qs.length ≤ xs.length ∧ Below w.heap.size w w' := by
  have hs : Seg w.heap.size (w.alloc (.cells #[.int .u64 x] 24)) (.slice (some ⟨w.heap.size, 0, none⟩) 1 1) [x] := by
    refine ⟨Words.cons ⟨by omega, by omega⟩ Words.nil, _, _, rfl, Nat.le_refl _, fun _ => ⟨_, 0, rfl, Nat.le_refl _, by simp, fun j hj => ?_, fun j _ => frozen_of_heap (World.alloc_heap_new w _) _⟩⟩
    obtain rfl : j = 0 := by simpa using hj
    exact cell_of_heap (World.alloc_heap_new w _) 0
  have hb0 : Below w.heap.size w (w.alloc (.cells #[.int .u64 x] 24)) := (Below.refl _ _).alloc (Nat.le_refl _) _
  have hv : val [x] = x := by simp [val]
  have hd := rdiv_yes (ha.below hb0) hs hla (by simp) (by rw [hv]; exact hx.1)
  rw [hv] at hd
  have hm0 := Int.emod_nonneg (val xs) (show x ≠ 0 by omega)
  have hm1 := Int.emod_lt_of_pos (val xs) hx.1
  clear hv
  go_enter Try.func15, Try.ntmps15
  go_wp2_with fail
  refine hd.mono ?_
  rintro e w1 ⟨a1, a2, c1, c2, qs, rs, rfl, hq, hr, nq, nr, vq, vr, lq, lr, hb1⟩
  have ho := rone_yes hr (by simp at lr; omega) (by rw [vr]; omega)
  rw [vr] at ho
  have HQ := hide vq
  clear hd vq vr
  go_wp2_with fail
  refine ho.mono ?_
  rintro e w2 ⟨rfl, hb2⟩
  have hb01 := hb0.trans (hb1.mono hb0.size)
  clear ho
  go_wp2
  go_ret3
  exact ⟨_, _, qs, rfl, (hq.below hb2).mono hb0.size, nq, HQ.out, lq, hb01.trans (hb2.mono hb01.size)⟩

set_option maxRecDepth 100000 in
set_option maxHeartbeats 1000000 in
/-- The document's Part, by 0: 5 (ErrZero). -/
theorem rpart_zero (a : Option Addr) (la ca : Nat) (w : World) :
    Calls Try.prog 15 #[.slice a la ca, .int .u64 0] w fun e w' => e = .returned (.tuple #[.slice none 0 0, .int .u64 0, .int .i64 5]) ∧ Below w.heap.size w w' := by
  have hs : Seg w.heap.size (w.alloc (.cells #[.int .u64 0] 24)) (.slice (some ⟨w.heap.size, 0, none⟩) 1 1) [0] := by
    refine ⟨Words.cons (by decide) Words.nil, _, _, rfl, Nat.le_refl _, fun _ => ⟨_, 0, rfl, Nat.le_refl _, by simp, fun j hj => ?_, fun j _ => frozen_of_heap (World.alloc_heap_new w _) _⟩⟩
    obtain rfl : j = 0 := by simpa using hj
    exact cell_of_heap (World.alloc_heap_new w _) 0
  have hb0 : Below w.heap.size w (w.alloc (.cells #[.int .u64 0] 24)) := (Below.refl _ _).alloc (Nat.le_refl _) _
  have hd := rdiv_zero a la ca hs (by simp) (by rfl)
  go_enter Try.func15, Try.ntmps15
  go_wp2_with fail
  refine hd.mono ?_
  rintro e w1 ⟨rfl, hb1⟩
  have ho := rone_yes (Seg.nil 0 w1) (by simp) (by decide)
  rw [val_nil] at ho
  clear hd
  have hb01 := hb0.trans (hb1.mono hb0.size)
  go_wp2_with fail
  refine ho.mono ?_
  rintro e w2 ⟨rfl, hb2⟩
  clear ho
  go_wp2
  go_ret3
  exact ⟨rfl, hb01.trans (hb2.mono hb01.size)⟩

set_option maxRecDepth 100000 in
set_option maxHeartbeats 1000000 in
/-- The document's Divides, of a number that is not 0. -/
theorem rdivides_yes {lo lo' : Nat} {a b : Option Addr} {la lb ca cb : Nat} {xs ys : List Int} {w : World} (ha : Seg lo w (.slice a la ca) xs) (hb : Seg lo' w (.slice b lb cb) ys) (hla : xs.length ≤ 4000) (hlb : ys.length ≤ 4000) (hA : 0 < val xs) :
    Calls Try.prog 18 #[.slice a la ca, .slice b lb cb] w fun e w' => e = .returned (.bool (decide (val ys % val xs = 0))) ∧ Below w.heap.size w w' := by
  have hd := rdiv_yes hb ha hlb hla hA
  clear hA
  go_enter Try.func18, Try.ntmps18
  go_wp2_with fail
  refine hd.mono ?_
  rintro e w1 ⟨a1, a2, c1, c2, qs, rs, rfl, hq, hr, nq, nr, vq, vr, lq, lr, hb1⟩
  have hz := len_zero hr.words nr
  rw [vr] at hz
  have HZ := hide hz
  clear hd vq vr hz
  go_wp2
  go_ret
  exact ⟨ret_bool HZ.out, hb1⟩

set_option maxRecDepth 100000 in
set_option maxHeartbeats 1000000 in
/-- The document's Divides, of 0. -/
theorem rdivides_zero {lo lo' : Nat} {a b : Option Addr} {la lb ca cb : Nat} {xs ys : List Int} {w : World} (ha : Seg lo w (.slice a la ca) xs) (hb : Seg lo' w (.slice b lb cb) ys) (hla : xs.length ≤ 4000) (hlb : ys.length ≤ 4000) (hA : val xs = 0) :
    Calls Try.prog 18 #[.slice a la ca, .slice b lb cb] w fun e w' => e = .returned (.bool (decide (val ys = 0))) ∧ Below w.heap.size w w' := by
  obtain ⟨rfl, _⟩ := hb.len
  have hd := rdiv_zero b ys.length cb ha hla hA
  clear hA
  go_enter Try.func18, Try.ntmps18
  go_wp2_with fail
  refine hd.mono ?_
  rintro e w1 ⟨rfl, hb1⟩
  clear hd
  go_wp2_with fail
  refine (rtrim_any (hb.below hb1) (by omega)).mono ?_
  rintro e w2 ⟨a2, c2, ts, rfl, hs2, hn2, hv2, hl2, hb2⟩
  have hz := len_zero hs2.words hn2
  rw [hv2] at hz
  have HZ := hide hz
  clear hv2 hz
  go_wp2
  go_ret
  exact ⟨ret_bool HZ.out, hb1.trans (hb2.mono hb1.size)⟩

/-- The greatest number that divides two. -/
def gcdI (a b : Int) : Int := (Nat.gcd a.toNat b.toNat : Nat)
theorem gcdI_zero (a : Int) (h : 0 ≤ a) : gcdI a 0 = a := by
  unfold gcdI
  rw [show (0 : Int).toNat = 0 from rfl, Nat.gcd_zero_right]
  omega
theorem gcdI_step {a b : Int} (ha : 0 ≤ a) (hb : 0 < b) : gcdI b (a % b) = gcdI a b := by
  obtain ⟨a, rfl⟩ := Int.eq_ofNat_of_zero_le ha
  obtain ⟨b, rfl⟩ := Int.eq_ofNat_of_zero_le (Int.le_of_lt hb)
  unfold gcdI
  rw [← Int.natCast_emod, Int.toNat_natCast, Int.toNat_natCast, Int.toNat_natCast, Nat.gcd_comm b, ← Nat.gcd_rec, Nat.gcd_comm]

set_option maxRecDepth 100000 in
set_option maxHeartbeats 2000000 in
/-- The document's Gcd. -/
theorem rgcd_any {lo lo' : Nat} {a b : Option Addr} {la lb ca cb : Nat} {xs ys : List Int} {w : World} (ha : Seg lo w (.slice a la ca) xs) (hb : Seg lo' w (.slice b lb cb) ys) (hla : xs.length ≤ 4000) (hlb : ys.length ≤ 4000) :
    Calls Try.prog 22 #[.slice a la ca, .slice b lb cb] w fun e w' => ∃ (a1 : Option Addr) (c1 : Nat) (gs : List Int), e = .returned (.slice a1 gs.length c1) ∧ Seg w.heap.size w' (.slice a1 gs.length c1) gs ∧ Norm gs ∧ val gs = gcdI (val xs) (val ys) ∧ gs.length ≤ max xs.length ys.length ∧ Below w.heap.size w w' := by
  obtain ⟨rfl, _⟩ := ha.len
  obtain ⟨rfl, _⟩ := hb.len
  go_enter Try.func22, Try.ntmps22
  go_wp2_with fail
  refine (rtrim_any ha (by omega)).mono ?_
  rintro e w1 ⟨a1, c1, ps, rfl, hs1, hn1, hv1, hl1, hb1⟩
  go_wp2_with fail
  refine (rtrim_any (hb.below hb1) (by omega)).mono ?_
  rintro e w2 ⟨a2, c2, ts, rfl, hs2, hn2, hv2, hl2, hb2⟩
  have hb12 := hb1.trans (hb2.mono hb1.size)
  have hs1' := hs1.below hb2
  have hs2' := hs2.mono hb1.size
  have HG : Hid (gcdI (val ps) (val ts) = gcdI (val xs) (val ys)) := by rw [Hid, hv1, hv2]
  clear hv1 hv2 hs1 hs2
  go_wp2
  go_loopw [0, 1] (fun av bv wr => ∃ (a3 a4 : Option Addr) (c3 c4 : Nat) (us vs : List Int), av = .slice a3 us.length c3 ∧ bv = .slice a4 vs.length c4 ∧ Seg w.heap.size wr (.slice a3 us.length c3) us ∧ Seg w.heap.size wr (.slice a4 vs.length c4) vs ∧ Norm us ∧ Norm vs ∧ Hid (gcdI (val us) (val vs) = gcdI (val xs) (val ys)) ∧ us.length ≤ max xs.length ys.length ∧ vs.length ≤ max xs.length ys.length ∧ Below w.heap.size w wr) (fun _ bv wr => (val (cellsOf wr bv)).toNat)
  case atStart => exact ⟨a1, a2, c1, c2, ps, ts, rfl, rfl, hs1', hs2', hn1, hn2, HG, by omega, by omega, hb12⟩
  case round =>
    obtain ⟨a3, a4, c3, c4, us, vs, rfl, rfl, hu, hv, nu, nv, HG, lu, lv, hbr⟩ := hrel
    by_cases h0 : vs = []
    · subst h0
      have hf : gcdI (val us) (val []) = val us := gcdI_zero _ (val_nonneg hu.words)
      have HF : Hid (val us = gcdI (val xs) (val ys)) := by rw [Hid, ← HG.out, hf]
      clear hf
      go_wp2
      go_ret
      exact ⟨_, _, us, rfl, hu, nu, HF.out, lu, hbr⟩
    · have hp := norm_pos hv.words nv h0
      have hl0 : (0 : Int) < (vs.length : Int) := by have := List.length_pos_iff.2 h0; omega
      have hd := rdiv_yes hu hv (by omega) (by omega) hp
      have hm := Int.emod_lt_of_pos (val us) hp
      have hm0 := Int.emod_nonneg (val us) (show val vs ≠ 0 by omega)
      have HS := hide (gcdI_step (val_nonneg hu.words) hp)
      have HCV := hide hv.cells
      have hwv := hv.words
      clear h0
      go_wp2_with fail
      refine hd.mono ?_
      rintro e w3 ⟨a5, a6, c5, c6, qs, rs, rfl, hq, hr, nq, nr, vq, vr, lq, lr, hb3⟩
      have hrl : rs.length ≤ vs.length := len_below hr.words nr (by have := val_lt hwv; rw [vr]; omega)
      have HCR := hide hr.cells
      have HG' : Hid (gcdI (val vs) (val rs) = gcdI (val xs) (val ys)) := by rw [Hid, vr, HS.out, HG.out]
      have HM : Hid (0 ≤ val rs ∧ val rs < val vs) := by rw [Hid, vr]; exact ⟨hm0, hm⟩
      have hv3 := hv.below hb3
      have hr3 := hr.mono hbr.size
      have hb4 := hbr.trans (hb3.mono hbr.size)
      clear hd vq vr hm hm0 hp hq
      go_wp2
      refine ⟨⟨a4, a6, c4, c6, vs, rs, rfl, rfl, hv3, hr3, nv, nr, HG', lv, by omega, hb4⟩, ?_⟩
      rw [HCR.out, HCV.out]
      have := HM.out
      omega
#print axioms rgcd_any
end Go.Proofs.Ytfdlhjnnbhfapaa
