/-
  The walk of the program's guess: one digit of a quotient, by the highest digits, with a goto back to the step that corrects it.
-/
import Derived.Test.YtejocefblpkdjabGreatDiv64
import Derived.Test.YtejocefblpkdjabGreatProd
import Derived.Test.YtejocefblpkdjabGreatJNum
import Derived.ScopeJumps
import Derived.WalkMore
namespace Go.Proofs.YtejocefblpkdjabGreat
open Go.RowKit

theorem Guess.high {u v U3 V2 S ru rv u2 u1 u0 v1 v0 : Int} (h : Guess u v U3 V2 S ru rv u2 u1 u0 v1 v0) : u2 ≤ v1 := by
  refine Classical.byContradiction fun hc => ?_
  have s0 := Int.le_of_lt h.S0
  have a : (V2 + 1) * S ≤ (v1 + 1) * 18446744073709551616 * S := Int.mul_le_mul_of_nonneg_right (by have := h.eV; have := h.hv0'; omega) s0
  have b : (v1 + 1) * 18446744073709551616 * 18446744073709551616 * S ≤ U3 * S := Int.mul_le_mul_of_nonneg_right (by have := h.eU; have := h.hu1; have := h.hu0; omega) s0
  have e : (v1 + 1) * 18446744073709551616 * 18446744073709551616 * S = (v1 + 1) * 18446744073709551616 * S * 18446744073709551616 := by ac_rfl
  rw [Int.add_mul, Int.one_mul] at a
  have := h.fit; have := h.eu; have := h.ev; have := h.ru0; have := h.rv1
  generalize (v1 + 1) * 18446744073709551616 * S = T at *
  generalize (v1 + 1) * 18446744073709551616 * 18446744073709551616 * S = T' at *
  omega

/-- What holds at the label: q is no less than the digit, and leaves ov digits and r of the two highest. -/
def GuessAt (u v u2 u1 v1 q r ov : Int) : Prop := 0 ≤ q ∧ q < 18446744073709551616 ∧ 0 ≤ r ∧ r < 18446744073709551616 ∧ (ov = 0 ∨ ov = 1) ∧ ov * 18446744073709551616 + r = u2 * 18446744073709551616 + u1 - q * v1 ∧ u / v ≤ q

/-- A scope in which the run comes to one label, and jumps back there: what stands behind the label is walked once. -/
theorem wp_scope_label {P : Program} {a : Act} {w : World} {Q : Exit → Act → World → Prop} {c R : Code} (l : Nat) (J : Act → World → Prop) (μ : Act → World → Nat) (hf : findLabel c l = some (Code.skip.seq R))
    (core : ∀ a w, J a w → R.wp P (Exit.jump l (fun a' w' => J a' w' ∧ μ a' w' < μ a w) Q) a w)
    (first : (∀ a w, J a w → R.wp P (Exit.jump l J Q) a w) → c.wp P (Exit.jump l J Q) a w) : (Code.scope c).wp P Q a w :=
  wp_scope_jumps l J μ hf (first fun a w h => wp_mono (core a w h) fun e a' w' => by
    cases e with
    | goto l' => exact fun h => ⟨h.1, h.2.1⟩
    | _ => exact fun h => h) fun a w h => wp_seq (wp_skip (core a w h))

set_option maxRecDepth 100000 in
set_option maxHeartbeats 4000000 in
/-- guess(left, divisor): as often as the divisor goes into left, or once more. -/
theorem guess_any {W : World} {b o cl g p cn k : Nat} {u v U3 V2 S ru rv u2 u1 u0 v1 v0 : Int} (hG : Guess u v U3 V2 S ru rv u2 u1 u0 v1 v0) (hk : k ≤ 20000)
    (c2 : W.cell? ⟨b, o + (k + 2), none⟩ = some (.int .u64 u2)) (c1 : W.cell? ⟨b, o + (k + 1), none⟩ = some (.int .u64 u1)) (c0 : W.cell? ⟨b, o + k, none⟩ = some (.int .u64 u0))
    (d1 : W.cell? ⟨g, p + (k + 1), none⟩ = some (.int .u64 v1)) (d0 : W.cell? ⟨g, p + k, none⟩ = some (.int .u64 v0)) :
    Calls Tryz.prog 96 #[.slice (some ⟨b, o, none⟩) (k + 3) cl, .slice (some ⟨g, p, none⟩) (k + 2) cn] W fun e W' => ∃ q : Int, e = .returned (.int .u64 q) ∧ (0 ≤ q ∧ q < 18446744073709551616) ∧ u / v ≤ q ∧ q ≤ u / v + 1 ∧ Below W.heap.size W W' := by
  have hv0 := hG.hv0
  have hv0' := hG.hv0'
  have hv1 := hG.hv1
  have hv1' := hG.hv1'
  have hu0 := hG.hu0
  have hu0' := hG.hu0'
  go_enter Tryz.func96, Tryz.ntmps96
  go_wp2
  refine wp_scope_label 0 (fun a' w' => Below W.heap.size W w' ∧ ∃ (q r ov : Int) (u14 u15 u16 u17 u18 u19 u20 u21 u22 u23 u24 u25 u26 u27 u28 u29 u30 u31 u32 u33 u34 u35 u36 u37 u38 u39 u40 u41 u42 u43 u44 u45 u46 u47 u48 u49 u50 u51 u52 u53 u54 u55 u56 u57 u58 u59 u60 u61 u62 u63 u64 u65 u66 u67 u68 u69 u70 u71 u72 u73 u74 u75 u76 u77 u78 u79 u80 u81 u82 u83 u84 u85 u86 u87 u88 u89 : Value), a' = { tmps := #[.slice (some ⟨b, o, none⟩) (k + 3) cl, .slice (some ⟨g, p, none⟩) (k + 2) cn, undef, undef, .int .u64 0, .int .i64 ((k : Int) + 2), .int .u64 u2, .int .u64 u1, .int .u64 u0, .int .u64 v1, .int .u64 v0, .int .u64 q, .int .u64 r, .int .u64 ov, u14, u15, u16, u17, u18, u19, u20, u21, u22, u23, u24, u25, u26, u27, u28, u29, u30, u31, u32, u33, u34, u35, u36, u37, u38, u39, u40, u41, u42, u43, u44, u45, u46, u47, u48, u49, u50, u51, u52, u53, u54, u55, u56, u57, u58, u59, u60, u61, u62, u63, u64, u65, u66, u67, u68, u69, u70, u71, u72, u73, u74, u75, u76, u77, u78, u79, u80, u81, u82, u83, u84, u85, u86, u87, u88, u89], defers := [] } ∧ GuessAt u v u2 u1 v1 q r ov) (fun a' _ => (intOf (a'.tmps.getD 11 undef)).toNat) rfl ?_ ?_
  · rintro a' w' ⟨hB, q, r, ov, u14, u15, u16, u17, u18, u19, u20, u21, u22, u23, u24, u25, u26, u27, u28, u29, u30, u31, u32, u33, u34, u35, u36, u37, u38, u39, u40, u41, u42, u43, u44, u45, u46, u47, u48, u49, u50, u51, u52, u53, u54, u55, u56, u57, u58, u59, u60, u61, u62, u63, u64, u65, u66, u67, u68, u69, u70, u71, u72, u73, u74, u75, u76, u77, u78, u79, u80, u81, u82, u83, u84, u85, u86, u87, u88, u89, rfl, hA⟩
    clear c0 c1 c2 d0 d1
    obtain ⟨hq0, hq1, hr0, hr1, hov, her, hle⟩ := hA
    have hqv := Int.mul_nonneg hq0 hv0
    have hmul := fun w => mul64_any q v0 ⟨hq0, hq1⟩ ⟨hv0, hv0'⟩ w
    have hsp : q * v0 / 18446744073709551616 * 18446744073709551616 + q * v0 % 18446744073709551616 = q * v0 := by omega
    have hlo : 0 ≤ q * v0 % 18446744073709551616 ∧ q * v0 % 18446744073709551616 < 18446744073709551616 := by omega
    obtain ⟨hi, ehi⟩ : ∃ hi, q * v0 / 18446744073709551616 = hi := ⟨_, rfl⟩
    obtain ⟨lo, elo⟩ : ∃ lo, q * v0 % 18446744073709551616 = lo := ⟨_, rfl⟩
    rw [ehi, elo] at hmul hsp
    rw [elo] at hlo
    have HS := hide hsp
    have HE := hide her
    clear hsp her ehi elo hqv
    by_cases h1 : ov = 0
    · subst h1
      have HT := hide (hG.test (q := q) (r := r) (by have := HE.out; omega))
      by_cases hbig : r * 18446744073709551616 + u0 < q * v0
      · -- too great: one less
        have hlt : u / v < q := hG.over hq0 (HT.out.1 hbig)
        have hdg := hG.digit.1
        have hq1' : IntKind.u64.wrap (q - 1) = q - 1 := by rw [IntKind.wrap_u64]; omega
        have ha := fun w => add64 r v1 0 hr0 (by omega) (by decide) (by decide) w
        have HA : Hid (GuessAt u v u2 u1 v1 (q - 1) ((r + v1) % 18446744073709551616) ((r + v1) / 18446744073709551616)) := by
          have e1 : (q - 1) * v1 = q * v1 - v1 := by rw [Int.sub_mul, Int.one_mul]
          have := HE.out
          exact ⟨by omega, by omega, by omega, by omega, by omega, by rw [e1]; omega, by omega⟩
        rcases (show r < hi ∨ (hi = r ∧ u0 < lo) by have := HS.out; omega) with hgt | ⟨rfl, hgt⟩
        · clear hbig hle hov
          go_wp2_with (first | (go_at_call 105; refine (hmul _).mono ?_; rintro e w2 ⟨rfl, rfl⟩))
          go_step3
          try simp only [Exit.jump]
          exact ⟨rfl, ⟨hB, _, _, _, _, _, _, _, _, _, _, _, _, _, _, _, _, _, _, _, _, _, _, _, _, _, _, _, _, _, _, _, _, _, _, _, _, _, _, _, _, _, _, _, _, _, _, _, _, _, _, _, _, _, _, _, _, _, _, _, _, _, _, _, _, _, _, _, _, _, _, _, _, _, _, _, _, _, _, _, rfl, HA.out⟩, by simp [intOf]; omega⟩
        · have hng : ¬ hi < hi := by omega
          clear hbig hle hov
          go_wp2_with (first | (go_at_call 105; refine (hmul _).mono ?_; rintro e w2 ⟨rfl, rfl⟩))
          go_step3
          try simp only [Exit.jump]
          exact ⟨rfl, ⟨hB, _, _, _, _, _, _, _, _, _, _, _, _, _, _, _, _, _, _, _, _, _, _, _, _, _, _, _, _, _, _, _, _, _, _, _, _, _, _, _, _, _, _, _, _, _, _, _, _, _, _, _, _, _, _, _, _, _, _, _, _, _, _, _, _, _, _, _, _, _, _, _, _, _, _, _, _, _, _, _, rfl, HA.out⟩, by simp [intOf]; omega⟩
      · have HN := hide (hG.near (q := q) (by omega) (HT.out.2 (by omega)))
        rcases (show hi < r ∨ (hi = r ∧ lo ≤ u0) by have := HS.out; omega) with hgt | ⟨rfl, hgt⟩
        · have hng : ¬ r < hi := by omega
          have hne : (hi == r) = false := beq_eq_false_iff_ne.2 (by omega)
          clear hbig hov
          go_wp2_with (first | (go_at_call 105; refine (hmul _).mono ?_; rintro e w2 ⟨rfl, rfl⟩))
          try simp only [Exit.jump]
          go_ret
          exact ⟨q, rfl, ⟨hq0, hq1⟩, hle, HN.out, hB⟩
        · have hng : ¬ hi < hi := by omega
          have hnl : ¬ u0 < lo := by omega
          clear hbig hov
          go_wp2_with (first | (go_at_call 105; refine (hmul _).mono ?_; rintro e w2 ⟨rfl, rfl⟩))
          try simp only [Exit.jump]
          go_ret
          exact ⟨q, rfl, ⟨hq0, hq1⟩, hle, HN.out, hB⟩
    · obtain rfl : ov = 1 := by omega
      have HN : Hid (q ≤ u / v + 1) := by
        have t := hG.test (q := q) (r := 18446744073709551616 + r) (by have := HE.out; omega)
        exact hG.near (by omega) (t.2 (hG.plenty (by omega) (by omega)))
      clear hov h1
      go_wp2_with (first | (go_at_call 105; refine (hmul _).mono ?_; rintro e w2 ⟨rfl, rfl⟩))
      try simp only [Exit.jump]
      go_ret
      exact ⟨q, rfl, ⟨hq0, hq1⟩, hle, HN.out, hB⟩
  · intro hcore
    have hw1 : IntKind.i64.wrap ((k : Int) + 2 - 1) = (k : Int) + 1 := by rw [IntKind.wrap_i64]; omega
    have hw2 : IntKind.i64.wrap ((k : Int) + 2 - 2) = (k : Int) := by rw [IntKind.wrap_i64]; omega
    have ht2 : ((k : Int) + 2).toNat = k + 2 := by omega
    have ht1 : ((k : Int) + 1).toNat = k + 1 := by omega
    have hl0 : (k : Int) < (k : Int) + 3 := by omega
    have hl1 : (k : Int) + 1 < (k : Int) + 3 := by omega
    have hl2 : (k : Int) + 2 < (k : Int) + 3 := by omega
    have hm0 : (k : Int) < (k : Int) + 2 := by omega
    have hm1 : (k : Int) + 1 < (k : Int) + 2 := by omega
    have hp1 : 0 ≤ (k : Int) + 1 := by omega
    have hp2 : 0 ≤ (k : Int) + 2 := by omega
    have HC := hide hcore
    clear hcore
    by_cases hlt : u2 < v1
    · have hdv := fun w => div64_any u2 u1 v1 ⟨hG.hu2, hlt⟩ ⟨hG.hu1, hG.hu1'⟩ hv1' w
      have hA : GuessAt u v u2 u1 v1 ((u2 * 18446744073709551616 + u1) / v1) ((u2 * 18446744073709551616 + u1) % v1) 0 := by
        have hs := hG.start
        have hd := hG.digit
        have hu2 := hG.hu2; have hu1 := hG.hu1; have hu1' := hG.hu1'
        have f2 := Int.ediv_lt_of_lt_mul (a := u2 * 18446744073709551616 + u1) (b := 18446744073709551616) (c := v1) (by omega) (by omega)
        unfold GuessAt
        generalize u2 * 18446744073709551616 + u1 = A at *
        have e := Int.emod_add_mul_ediv A v1
        have f0 := Int.emod_nonneg A (show v1 ≠ 0 by omega)
        have f1 := Int.emod_lt_of_pos A (show 0 < v1 by omega)
        have f3 : A / v1 * v1 = v1 * (A / v1) := Int.mul_comm _ _
        exact ⟨by omega, f2, f0, by omega, .inl rfl, by omega, hs⟩
      obtain ⟨q, eq⟩ : ∃ q, (u2 * 18446744073709551616 + u1) / v1 = q := ⟨_, rfl⟩
      obtain ⟨r, er⟩ : ∃ r, (u2 * 18446744073709551616 + u1) % v1 = r := ⟨_, rfl⟩
      rw [eq, er] at hdv hA
      clear eq er
      have HA := hide hA
      clear hA
      go_wp2_with fail
      go_region
      go_wp2_with fail
      go_region
      go_wp2_with fail
      refine (hdv _).mono ?_
      rintro e w2 ⟨rfl, hB⟩
      go_wp2_with fail
      go_step3
      rename_i _ hK
      exact hK _ _ (HC.out _ _ ⟨(Below.refl W.heap.size W).drew.drew.trans hB, _, _, _, _, _, _, _, _, _, _, _, _, _, _, _, _, _, _, _, _, _, _, _, _, _, _, _, _, _, _, _, _, _, _, _, _, _, _, _, _, _, _, _, _, _, _, _, _, _, _, _, _, _, _, _, _, _, _, _, _, _, _, _, _, _, _, _, _, _, _, _, _, _, _, _, _, _, _, _, rfl, HA.out⟩)
    · have heq : u2 = v1 := by have := hG.high; omega
      have hadd := fun w => add64 u1 v1 0 hG.hu1 (by omega) (by decide) (by decide) w
      have hA : GuessAt u v u2 u1 v1 18446744073709551615 ((u1 + v1) % 18446744073709551616) ((u1 + v1) / 18446744073709551616) := by
        have hd := hG.digit
        have hu1 := hG.hu1; have hu1' := hG.hu1'
        exact ⟨by omega, by omega, by omega, by omega, by omega, by omega, by omega⟩
      have HA := hide hA
      clear hA heq
      go_wp2_with fail
      go_region
      go_wp2_with fail
      go_region
      go_wp2_with fail
      go_step3
      rename_i _ hK
      exact hK _ _ (HC.out _ _ ⟨(Below.refl _ _).drew.drew, _, _, _, _, _, _, _, _, _, _, _, _, _, _, _, _, _, _, _, _, _, _, _, _, _, _, _, _, _, _, _, _, _, _, _, _, _, _, _, _, _, _, _, _, _, _, _, _, _, _, _, _, _, _, _, _, _, _, _, _, _, _, _, _, _, _, _, _, _, _, _, _, _, _, _, _, _, _, _, rfl, HA.out⟩)
end Go.Proofs.YtejocefblpkdjabGreat
