/-
  Joined: Mul Power PowerNo.
-/
import Derived.Test.YtblmkddjlfienabGreatJQLong
import Derived.Test.YtblmkddjlfienabGreatJEnds
import Derived.Laws.EntriesVeiled
import Derived.Test.YtblmkddjlfienabGreatJLenOf
import Derived.Test.YtblmkddjlfienabGreatJCmp
namespace Go.Proofs.YtblmkddjlfienabGreat
open Go.RowKit
set_option maxRecDepth 100000 in
set_option maxHeartbeats 1000000 in
theorem byHalves_any {lo lo' : Nat} {sa sb : Value} {xs ys : List Int} {w : World} (ha : Seg lo w sa xs) (hb : Seg lo' w sb ys) (hla : xs.length ≤ 4000) (hlb : ys.length ≤ 4000) (least : Nat) (hleast : 2 ≤ least ∧ least ≤ 1000) :
    Calls Tryz.prog 84 #[sa, sb, .int .i64 least] w fun e w' => ∃ (a : Option Addr) (cap : Nat) (zs : List Int), e = .returned (.slice a zs.length cap) ∧ Seg w.heap.size w' (.slice a zs.length cap) zs ∧ Norm zs ∧ val zs = val xs * val ys ∧ zs.length ≤ xs.length + ys.length ∧ Below w.heap.size w w' := by
  have h1 := val_nonneg ha.words
  have h2 := val_nonneg hb.words
  have HN : Hid (val xs + val ys < (((val xs + val ys).toNat + 1 : Nat) : Int)) := by rw [Hid]; omega
  clear h1 h2
  go_enter Tryz.func84, Tryz.ntmps84
  go_wp2_with fail
  have hW : ∀ (t t' : TypeId) (u v : Value), Below w.heap.size w ((w.alloc (.cells #[u] t)).alloc (.cells #[v] t')) := fun t t' u v => ((Below.refl _ w).alloc (Nat.le_refl _) _).alloc (by simp) _
  refine (halves_any w.heap.size (w.heap.size + 1) least hleast ((val xs + val ys).toNat + 1) (ha.below (hW _ _ _ _)) (hb.below (hW _ _ _ _)) hla hlb HN.out (by simp; omega) (by simp) ?_ ?_).mono ?_
  · exact ((Boxed.new w _ _).alloc _).cell
  · have := fun t => (Boxed.new (w.alloc (.cells #[.int .i64 least] 3)) t (.func (.func 95) #[] #[.pointer (some ⟨w.heap.size, 0, none⟩), .pointer (some ⟨w.heap.size + 1, 0, none⟩)])).cell
    rw [World.size_alloc] at this
    exact this _
  · rintro e w1 ⟨a1, k1, zs, rfl, hs1, hn1, hv1, hl1, hb1⟩
    have HV := hide hv1
    clear hv1
    go_wp2
    go_ret
    exact ⟨_, _, zs, rfl, hs1.mono (hW _ _ _ _).size, hn1, HV.out, hl1, (hW _ _ _ _).trans (hb1.mono (hW _ _ _ _).size)⟩
set_option maxRecDepth 100000 in
set_option maxHeartbeats 400000 in
theorem mul_any {lo lo' : Nat} {sa sb : Value} {xs ys : List Int} {w : World} (ha : Seg lo w sa xs) (hb : Seg lo' w sb ys) (hla : xs.length ≤ 4000) (hlb : ys.length ≤ 4000) :
    Calls Tryz.prog 71 #[sa, sb] w fun e w' => ∃ (a : Option Addr) (cap : Nat) (zs : List Int), e = .returned (.slice a zs.length cap) ∧ Seg w.heap.size w' (.slice a zs.length cap) zs ∧ Norm zs ∧ val zs = val xs * val ys ∧ zs.length ≤ xs.length + ys.length ∧ Below w.heap.size w w' := by
  have h80 := byHalves_any ha hb hla hlb 80 (by omega)
  rw [show ((80 : Nat) : Int) = 80 from rfl] at h80
  go_enter Tryz.func71, Tryz.ntmps71
  go_wp2_with fail
  refine h80.mono ?_
  rintro e w1 ⟨a1, k1, zs, rfl, hs1, hn1, hv1, hl1, hb1⟩
  have HV := hide hv1
  clear hv1 h80
  go_wp2
  go_ret
  exact ⟨_, _, zs, rfl, hs1, hn1, HV.out, hl1, hb1⟩
set_option maxRecDepth 100000 in
set_option maxHeartbeats 400000 in
theorem square_any {lo : Nat} {sa : Value} {xs : List Int} {w : World} (ha : Seg lo w sa xs) (hla : xs.length ≤ 4000) :
    Calls Tryz.prog 70 #[sa] w fun e w' => ∃ (a : Option Addr) (cap : Nat) (zs : List Int), e = .returned (.slice a zs.length cap) ∧ Seg w.heap.size w' (.slice a zs.length cap) zs ∧ Norm zs ∧ val zs = val xs * val xs ∧ zs.length ≤ xs.length + xs.length ∧ Below w.heap.size w w' := by
  have hm := mul_any ha ha hla hla
  go_enter Tryz.func70, Tryz.ntmps70
  go_wp2_with fail
  refine hm.mono ?_
  rintro e w1 ⟨a1, k1, zs, rfl, hs1, hn1, hv1, hl1, hb1⟩
  have HV := hide hv1
  clear hv1 hm
  go_wp2
  go_ret
  exact ⟨_, _, zs, rfl, hs1, hn1, HV.out, hl1, hb1⟩
end Go.Proofs.YtblmkddjlfienabGreat
namespace Go.Proofs.YtblmkddjlfienabGreat
open Go.RowKit Go.Shelf
attribute [local go_sem] Oper.semAt_some
theorem keepsCell_below {Bs : Nat} {W W' : World} (h : Below W.heap.size W W') : KeepsCell Bs W W' := fun _ hu => by
  obtain ⟨o, ho, _⟩ := cells_of_cell hu
  exact (h.cell (p := ⟨Bs, 0, none⟩) (Array.getElem?_eq_some_iff.1 ho).1).trans hu
theorem keepsCell_set {Bs B : Nat} (W : World) (v : Value) (h : Bs ≠ B) : KeepsCell Bs W (W.setCell ⟨B, 0, none⟩ v) := fun _ hu => (World.cell?_setCell_other W ⟨B, 0, none⟩ ⟨Bs, 0, none⟩ _ (by intro e; injection e with e1; exact h e1.symm)).trans hu
theorem keepsCell_trans {Bs : Nat} {A B C : World} (h : KeepsCell Bs A B) (k : KeepsCell Bs B C) : KeepsCell Bs A C := fun u hu => k u (h u hu)
theorem room_next {M k N z : Nat} (hk : k < N) (hz : z + M ≤ M * 2 ^ (k + 1)) (hN : M * 2 ^ (N + 1) ≤ 4000) : z ≤ 4000 ∧ z + z ≤ 4000 ∧ M ≤ 4000 ∧ ∀ y, y ≤ z + z → y + M ≤ M * 2 ^ (k + 1 + 1) ∧ (∀ u, u + 1 ≤ y + M → u + M ≤ M * 2 ^ (k + 1 + 1)) := by
  have a : M * 2 ^ (k + 1 + 1) = 2 * (M * 2 ^ (k + 1)) := by rw [Nat.pow_succ 2 (k + 1), ← Nat.mul_assoc, Nat.mul_comm]
  have b : M * 2 ^ (k + 1 + 1) ≤ M * 2 ^ (N + 1) := Nat.mul_le_mul_left _ (Nat.pow_le_pow_right (by decide) (by omega))
  have c : M ≤ M * 2 ^ (k + 1) := Nat.le_mul_of_pos_right _ (Nat.two_pow_pos _)
  rw [a] at b ⊢
  generalize M * 2 ^ (k + 1) = T at *
  exact ⟨by omega, by omega, by omega, fun y hy => ⟨by omega, fun u hu => by omega⟩⟩
set_option maxRecDepth 100000 in
set_option maxHeartbeats 4000000 in
theorem power_yes {lo : Nat} {a : Option Addr} {cap : Nat} {xs : List Int} {w : World} (ha : Seg lo w (.slice a xs.length cap) xs) (n : Nat) (hn : n ≤ 65536) (hbits : (n : Int) * (blen (val xs) : Int) ≤ 16777216) (hfit : (xs.length + 1) * 2 ^ (blen n + 1) ≤ 4000) :
    Calls Tryz.prog 69 #[.slice a xs.length cap, .int .i64 n] w fun e w' => ∃ (a' : Option Addr) (cap' : Nat) (zs : List Int), e = .returned (.tuple #[.slice a' zs.length cap', .int .i64 0]) ∧ Seg w.heap.size w' (.slice a' zs.length cap') zs ∧ Norm zs ∧ val zs = val xs ^ n ∧ Below w.heap.size w w' := by
  obtain ⟨bl, hbl⟩ : ∃ bl, blen (val xs) = bl := ⟨_, rfl⟩
  have hl4 : xs.length ≤ 4000 := by
    have : xs.length + 1 ≤ (xs.length + 1) * 2 ^ (blen n + 1) := Nat.le_mul_of_pos_right _ (Nat.two_pow_pos _)
    omega
  have hlen := fun (W : World) (hW : Below w.heap.size w W) => len_any (ha.below hW) (by omega)
  rw [hbl] at hlen hbits
  have hgt : ¬ (16777216 : Int) < (n : Int) * (bl : Int) := by omega
  have hnb : 0 ≤ (n : Int) * (bl : Int) := Int.mul_nonneg (by omega) (by omega)
  have hwr : IntKind.i64.wrap ((n : Int) * (bl : Int)) = (n : Int) * (bl : Int) := by rw [IntKind.wrap_i64]; omega
  have hn0 : ¬ (n : Int) < 0 := by omega
  have hn1 : ¬ (65536 : Int) < (n : Int) := by omega
  clear hbl
  refine (callsIn_wide (n := 4)).1 ?_
  refine callsIn_of_wp_marks Tryz.func69 rfl trivial ?_ rfl
  simp only [Tryz.ntmps69, List.size_toArray, List.length_cons, List.length_nil, Nat.reduceAdd, Nat.reduceSub, Array.replicate_succ, Array.replicate_zero, List.push_toArray, List.append_toArray, List.nil_append, List.cons_append]
  gi_wp2_with fail
  have hA0 : Below w.heap.size w (w.alloc (.cells #[.slice a xs.length cap] 23)) := (Below.refl _ w).alloc (Nat.le_refl _) _
  have bA := Boxed.new w 23 (.slice a xs.length cap)
  obtain ⟨w0, hw0⟩ : ∃ w0, w.alloc (.cells #[.slice a xs.length cap] 23) = w0 := ⟨_, rfl⟩
  have hsz0 : w.heap.size < w0.heap.size := by rw [← hw0]; simp
  rw [hw0] at hA0 bA ⊢
  clear hw0
  refine ⟨trivial, ?_⟩
  refine (callsIn_wide.2 (hlen w0 hA0)).mono ?_
  rintro e w1 ⟨rfl, hb1⟩
  have hA1 := hA0.trans (hb1.mono hA0.size)
  have bA1 := Boxed.belowed bA hb1 hsz0
  have hsz1 : w.heap.size < w1.heap.size := Nat.lt_of_lt_of_le hsz0 hb1.size
  clear hlen hb1 bA hA0 hsz0
  gi_wp2_with fail
  refine ⟨trivial, ?_⟩
  refine (callsIn_wide.2 (of_any 1 (by decide) w1)).mono ?_
  rintro e w2 ⟨a2, k2, os, rfl, hs2, hn2, hv2, hl2, hb2⟩
  have hA2 := hA1.trans (hb2.mono hA1.size)
  have bA2 := Boxed.belowed bA1 hb2 hsz1
  have HV2 := hide hv2
  have hsz2 : w.heap.size < w2.heap.size := Nat.lt_of_lt_of_le hsz1 hb2.size
  clear bA1 hv2
  gi_wp2_with fail
  refine ⟨trivial, ?_⟩
  refine (bitsDown_in _ n _).mono ?_
  rintro e w3 ⟨rfl, rfl⟩
  gi_wp2_with fail
  have bP6 := (Boxed.new w2 23 (.slice a2 os.length k2)).alloc (.cells #[.int .i64 n] 3)
  have bN6 := Boxed.new (w2.alloc (.cells #[.slice a2 os.length k2] 23)) 3 (.int .i64 n)
  have hB26 : Below w2.heap.size w2 ((w2.alloc (.cells #[.slice a2 os.length k2] 23)).alloc (.cells #[.int .i64 n] 3)) := ((Below.refl _ w2).alloc (Nat.le_refl _) _).alloc (by simp) _
  rw [World.size_alloc] at bN6
  obtain ⟨w6, hw6⟩ : ∃ w6, (w2.alloc (.cells #[.slice a2 os.length k2] 23)).alloc (.cells #[.int .i64 n] 3) = w6 := ⟨_, rfl⟩
  have hsz6 : w6.heap.size = w2.heap.size + 2 := by rw [← hw6]; simp
  have HSZ := hide hsz6
  rw [hw6] at bP6 bN6 hB26 ⊢
  clear hw6 hsz6
  have bA6 := Boxed.belowed bA2 hB26 hsz2
  have hA6 := hA2.trans (hB26.mono hA2.size)
  have hs6 := (hs2.mono hA1.size).below hB26
  have hcN := bN6.cell
  refine wpIn_rangeFunc_ownG rfl (by omega) (gf := 93) (lb := #[.pointer (some ⟨w2.heap.size + 1, 0, none⟩)]) rfl trivial (enters_of Tryz.func93 (by kernel_rfl) rfl)
    (bits_stops 3 (by omega) (w2.heap.size + 1) n hn w6 (by have := HSZ.out; omega) hcN) keepsCell_trans (fun W l o o' _ h ho _ => keepsCell_b _ W l o o' h ho) (Below.refl _ _) (fun _ => rfl)
    (fun pre W => (Boxed W w.heap.size 23 (.slice a xs.length cap) ∧ ∃ (a6 : Option Addr) (k6 : Nat) (zs : List Int), Boxed W w2.heap.size 23 (.slice a6 zs.length k6) ∧ Seg w.heap.size W (.slice a6 zs.length k6) zs ∧ Norm zs ∧ Hid (val zs = val xs ^ bin pre) ∧ zs.length + (xs.length + 1) ≤ (xs.length + 1) * 2 ^ (pre.length + 1)) ∧ Below w.heap.size w W)
    (fun _ _ _ => False)
    (fun s A B row hs hg hr => by
      obtain ⟨⟨b1, a6, k6, zs, b2, h3, h4, h5, h6⟩, h7⟩ := hs
      have hr' := fun r e => (hr r e).2
      exact ⟨⟨boxed_own w.heap.size 23 (fun _ : Unit => .slice a xs.length cap) () A B row b1 hg hr', a6, k6, zs, boxed_own w2.heap.size 23 (fun _ : Unit => .slice a6 zs.length k6) () A B row b2 hg hr', h3.kept hg hr', h4, h5, h6⟩, ownFrom_below (Nat.le_refl _) hA6.size s A B row h7 hg hr⟩)
    (fun _ _ _ _ _ hs _ _ => hs)
    ⟨⟨bA6, a2, k2, os, bP6, hs6, hn2, by rw [Hid, HV2.out]; exact (Int.pow_zero _).symm, by simp; omega⟩, hA6⟩
    (fun x => { tmps := #[.slice a xs.length cap, .int .i64 n, .pointer (some ⟨w.heap.size, 0, none⟩), undef, .slice none 0 0, .int .i64 0, .pointer (some ⟨w2.heap.size, 0, none⟩), .bool x, .int .i64 n, .bool false, .bool false, .int .i64 n, .bool false, .bool false, .int .i64 n, .slice a xs.length cap, .int .i64 bl, .int .i64 ((n : Int) * (bl : Int)), .bool (decide (16777216 < (n : Int) * (bl : Int))), .slice a2 os.length k2, .int .i64 n, .func (.func 93) #[] #[.pointer (some ⟨w2.heap.size + 1, 0, none⟩)], .bool x, undef, undef, undef, undef, undef, undef, undef], defers := [] }) ?assign ?body ?done ?stop
  case assign =>
    intro l x W K hK
    gi_wp2
    exact hK
  case body =>
    rintro l pre x W ⟨⟨bA, a6, k6, zs, bP, hsz, hnz, HVZ, hlz⟩, hB⟩ hpl
    obtain ⟨r1, r2, r3, r4⟩ := room_next hpl hlz hfit
    have HR := hide r4
    have hcA := bA.cell
    have hcP := bP.cell
    have hfP := bP.frozen
    clear r4
    have hsq := square_any hsz r1
    cases x with
    | false =>
      gi_wp2_with fail
      refine ⟨trivial, ?_⟩
      refine (CallsIn.inRound l (callsIn_wide.2 hsq)).mono ?_
      rintro e W1 ⟨a7, k7, ss, rfl, hs7, hn7, hv7, hl7, hb7⟩
      have bP1 := Boxed.belowed bP hb7 bP.lt
      have bA1 := Boxed.belowed bA hb7 bA.lt
      have hcP1 := bP1.cell
      have hfP1 := bP1.frozen
      have hB1 := hB.trans (hb7.mono hB.size)
      have HV7 : Hid (val ss = val xs ^ bin (pre ++ [false])) := by
        rw [Hid, hv7, HVZ.out, bin_snoc, ← Int.pow_add]; congr 1; simp; omega
      clear hv7 hsq
      gi_wp2
      refine ⟨(keepsFrom_below hb7).trans ((KeepsOthers.setCell _ _ _).from _), keepsCell_trans (keepsCell_below hb7) (keepsCell_set _ _ (by omega)), ⟨bA1.other (by omega) _, a7, k7, ss, bP1.set _, (hs7.mono hB.size).other bP1 (by intro z h; cases h) _, hn7, HV7, ?_⟩, hB1.setCell (p := ⟨w2.heap.size, 0, none⟩) (by show w.heap.size ≤ w2.heap.size; omega) _⟩
      rw [List.length_append]
      exact (HR.out _ hl7).1
    | true =>
      gi_wp2_with fail
      refine ⟨trivial, ?_⟩
      refine (CallsIn.inRound l (callsIn_wide.2 hsq)).mono ?_
      rintro e W1 ⟨a7, k7, ss, rfl, hs7, hn7, hv7, hl7, hb7⟩
      have bP1 := Boxed.belowed bP hb7 bP.lt
      have bA1 := Boxed.belowed bA hb7 bA.lt
      have hcP1 := bP1.cell
      have hfP1 := bP1.frozen
      have hB1 := hB.trans (hb7.mono hB.size)
      have bP2 := bP1.set (.slice a7 ss.length k7)
      have bA2' := bA1.other (B' := w2.heap.size) (by omega) (.slice a7 ss.length k7)
      have hB2 := hB1.setCell (p := ⟨w2.heap.size, 0, none⟩) (by show w.heap.size ≤ w2.heap.size; omega) (.slice a7 ss.length k7)
      have hs7' := (hs7.mono hB.size).other bP1 (by intro z h; cases h) (.slice a7 ss.length k7)
      have hcP2 := bP2.cell
      have hfP2 := bP2.frozen
      have hcA2 := bA2'.cell
      have hk2 : KeepsFrom w6.heap.size W (W1.setCell ⟨w2.heap.size, 0, none⟩ (.slice a7 ss.length k7)) := (keepsFrom_below hb7).trans ((KeepsOthers.setCell _ _ _).from _)
      have hkc2 : KeepsCell (w2.heap.size + 1) W (W1.setCell ⟨w2.heap.size, 0, none⟩ (.slice a7 ss.length k7)) := keepsCell_trans (keepsCell_below hb7) (keepsCell_set _ _ (by omega))
      have hmu := mul_any hs7' (ha.below hB2) (by omega) (by omega)
      have HV7 := hide hv7
      clear hv7 hsq
      gi_wp2_with fail
      refine ⟨trivial, ?_⟩
      refine (CallsIn.inRound l (callsIn_wide.2 hmu)).mono ?_
      rintro e W3 ⟨a8, k8, us, rfl, hs8, hn8, hv8, hl8, hb8⟩
      have bP3 := Boxed.belowed bP2 hb8 bP2.lt
      have bA3 := Boxed.belowed bA2' hb8 bA2'.lt
      have hcP3 := bP3.cell
      have hfP3 := bP3.frozen
      have hB3 := hB2.trans (hb8.mono hB2.size)
      have HV8 : Hid (val us = val xs ^ bin (pre ++ [true])) := by
        rw [Hid, hv8, HV7.out, HVZ.out, bin_snoc, ← Int.pow_add]
        rw [show 2 * bin pre + true.toNat = bin pre + bin pre + 1 by simp; omega, Int.pow_succ]
      clear hv8 hmu
      gi_wp2
      refine ⟨hk2.trans ((keepsFrom_below hb8).trans ((KeepsOthers.setCell _ _ _).from _)), keepsCell_trans hkc2 (keepsCell_trans (keepsCell_below hb8) (keepsCell_set _ _ (by omega))), ⟨bA3.other (by omega) _, a8, k8, us, bP3.set _, (hs8.mono hB2.size).other bP3 (by intro z h; cases h) _, hn8, HV8, ?_⟩, hB3.setCell (p := ⟨w2.heap.size, 0, none⟩) (by show w.heap.size ≤ w2.heap.size; omega) _⟩
      rw [List.length_append]
      exact (HR.out _ hl7).2 _ (by omega)
  case done =>
    rintro D ys W hD hys ⟨⟨bA, a6, k6, zs, bP, hsz, hnz, HVZ, hlz⟩, hB⟩ hK
    have hcP := bP.cell
    have HVN : Hid (val zs = val xs ^ n) := by rw [Hid, HVZ.out, hys, bin_all n hn]
    gi_wp2
    refine ⟨by simp, .inl ⟨_, _, rfl, run_takeDeferred hK, ?_⟩⟩
    refine ⟨.tuple #[.slice a6 zs.length k6, .int .i64 0], ?_, a6, k6, zs, rfl, hsz.kept (grownBy_putObj' _ D (.deferred none)) (fun r e => by cases e; exact ⟨_, hK, rfl⟩), hnz, HVN.out, hB.trans (belowK_b (w := w) (Nat.le_refl _) W D _ _ (by have := hA6.size; omega) hK rfl rfl)⟩
    simp [results, Tryz.f69, go_sem]
  case stop =>
    rintro D c pre W _ _ h _
    exact h.elim
end Go.Proofs.YtblmkddjlfienabGreat
namespace Go.Proofs.YtblmkddjlfienabGreat
open Go.RowKit Go.Shelf
attribute [local go_sem] Oper.semAt_some
theorem pow_le_pow {x y : Int} (h0 : 0 ≤ x) (h : x ≤ y) : ∀ n : Nat, 0 ≤ x ^ n ∧ x ^ n ≤ y ^ n
  | 0 => ⟨by rw [Int.pow_zero]; decide, by rw [Int.pow_zero, Int.pow_zero]; exact Int.le_refl _⟩
  | n + 1 => by
    have ih := pow_le_pow h0 h n
    rw [Int.pow_succ, Int.pow_succ]
    exact ⟨Int.mul_nonneg ih.1 h0, Int.mul_le_mul ih.2 h h0 (Int.le_trans ih.1 ih.2)⟩
theorem pw_pow (m : Nat) : ∀ n : Nat, pw m ^ n = pw (m * n)
  | 0 => by rw [Int.pow_zero, Nat.mul_zero, pw_zero]
  | n + 1 => by rw [Int.pow_succ, pw_pow m n, ← pw_add, Nat.mul_succ]
theorem pw_lt_inv {m n : Nat} (h : pw m ≤ pw n) : m ≤ n := by
  rcases Nat.lt_or_ge n m with h1 | h1
  · have a := pw_mono (m := n + 1) (n := m) h1
    rw [pw_succ] at a
    have := pw_pos n
    omega
  · exact h1
theorem len_of_val {zs : List Int} {m : Nat} (hw : Words zs) (hn : Norm zs) (h : val zs ≤ pw m) : zs.length ≤ m + 1 := by
  by_cases e : zs = []
  · subst e; simp
  · have := pw_lt_inv (Int.le_trans (norm_val hw hn e) h)
    omega
theorem len_of_pow {xs zs : List Int} {n : Nat} (hx : Words xs) (hw : Words zs) (hn : Norm zs) (h : val zs = val xs ^ n) : zs.length ≤ xs.length * n + 1 := by
  refine len_of_val hw hn ?_
  rw [h, ← pw_pow]
  exact (pow_le_pow (val_nonneg hx) (Int.le_of_lt (val_lt hx)) n).2
end Go.Proofs.YtblmkddjlfienabGreat
