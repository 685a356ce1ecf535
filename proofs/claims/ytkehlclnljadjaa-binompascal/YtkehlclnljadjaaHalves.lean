/-
  The walk of the program's products by halves: a function held in a variable that calls itself.
-/
import Derived.Test.YtkehlclnljadjaaJoin
import Derived.Deep.RegionHeld3
import Derived.Deep.RegionWith
import Derived.Deep.CutRange
namespace Go.Proofs.Ytkehlclnljadjaa
open Go.RowKit

theorem cut_val (zs : List Int) (p : Nat) : val zs = val (zs.take p) + pw p * val (zs.drop p) := by
  by_cases h : p ≤ zs.length
  · have := val_append (zs.take p) (zs.drop p)
    rw [List.take_append_drop, List.length_take, Nat.min_eq_left h] at this
    exact this
  · rw [List.take_of_length_le (by omega), List.drop_eq_nil_of_le (by omega), val_nil]; simp
/-- Both parts are not greater, nor is their sum. -/
theorem cut_le {zs : List Int} (hw : Words zs) (p : Nat) : 0 ≤ val (zs.take p) ∧ 0 ≤ val (zs.drop p) ∧ val (zs.take p) + val (zs.drop p) ≤ val zs := by
  have a := val_nonneg (hw.take p)
  have b := val_nonneg (hw.drop p)
  have e := cut_val zs p
  have q := pw_pos p
  have : 1 * val (zs.drop p) ≤ pw p * val (zs.drop p) := Int.mul_le_mul_of_nonneg_right (by omega) b
  omega
/-- Of the longer number all are less. -/
theorem cut_lt {zs : List Int} (hw : Words zs) (hn : Norm zs) {p : Nat} (h0 : 0 < p) (h : p < zs.length) : val (zs.take p) < val zs ∧ val (zs.drop p) < val zs ∧ val (zs.take p) + val (zs.drop p) < val zs := by
  have a := val_nonneg (hw.take p)
  have b := norm_pos (hw.drop p) (hn.drop p) (by intro e; have := congrArg List.length e; rw [List.length_drop] at this; simp at this; omega)
  have e := cut_val zs p
  have q := pw_mono (m := 1) (n := p) h0
  rw [show pw 1 = 18446744073709551616 from rfl] at q
  have : 2 * val (zs.drop p) ≤ pw p * val (zs.drop p) := Int.mul_le_mul_of_nonneg_right (by omega) (by omega)
  omega
/-- What the three products come to. -/
theorem halves_val (la ha lb hb P : Int) : la * lb + P * P * (ha * hb) + P * ((la + ha) * (lb + hb) - la * lb - ha * hb) = (la + P * ha) * (lb + P * hb) := by
  have e : (la + ha) * (lb + hb) - la * lb - ha * hb = la * hb + ha * lb := by rw [Int.add_mul, Int.mul_add, Int.mul_add]; omega
  rw [e, Int.add_mul, Int.mul_add, Int.mul_add, Int.mul_add, Int.mul_left_comm la P hb, Int.mul_assoc P ha lb, show P * ha * (P * hb) = P * P * (ha * hb) by ac_rfl]
  omega

theorem cross_le {la ha lb hb : Int} (h1 : 0 ≤ la) (h2 : 0 ≤ ha) (h3 : 0 ≤ lb) (h4 : 0 ≤ hb) : la * lb + ha * hb ≤ (la + ha) * (lb + hb) := by
  have a := Int.mul_nonneg h1 h4
  have b := Int.mul_nonneg h2 h3
  rw [Int.add_mul, Int.mul_add, Int.mul_add]
  omega
theorem halves_total {vx vy la ha lb hb l h c cr : Int} {p : Nat} (e1 : vx = la + pw p * ha) (e2 : vy = lb + pw p * hb) (e3 : l = la * lb) (e4 : h = ha * hb) (e5 : cr = (la + ha) * (lb + hb)) (e6 : c = cr - l - h) : l + pw (2 * p) * h + pw p * c = vx * vy := by
  rw [e6, e5, e3, e4, e1, e2, show 2 * p = p + p by omega, pw_add]
  exact halves_val la ha lb hb (pw p)
theorem mul_fits {xs ys : List Int} (hx : Words xs) (hy : Words ys) : val xs * val ys < pw (xs.length + ys.length) := by
  have a := val_lt hx
  have b := val_lt hy
  have c := val_nonneg hy
  have d := pw_pos xs.length
  have e := Int.mul_le_mul_of_nonneg_right (Int.le_of_lt a) c
  have f := Int.mul_lt_mul_of_pos_left b d
  rw [pw_add]
  omega
/-- What is known of four halves. -/
theorem halves_facts {xs ys lA hA lB hB : List Int} {p mx : Nat} (hx : Words xs) (hy : Words ys) (nx : Norm xs) (ny : Norm ys) (hm : mx = max xs.length ys.length) (h0 : 0 < p) (h1 : p < mx) (h2 : mx ≤ 2 * p) (e1 : lA = xs.take p) (e2 : hA = xs.drop p) (e3 : lB = ys.take p) (e4 : hB = ys.drop p) :
    (val xs = val lA + pw p * val hA ∧ val ys = val lB + pw p * val hB) ∧ (0 ≤ val lA ∧ 0 ≤ val hA ∧ 0 ≤ val lB ∧ 0 ≤ val hB) ∧
      (val lA + val lB < val xs + val ys ∧ val hA + val hB < val xs + val ys ∧ val lA + val hA + (val lB + val hB) < val xs + val ys) ∧ (lA.length ≤ p ∧ hA.length ≤ p ∧ lB.length ≤ p ∧ hB.length ≤ p) ∧ (lA.length ≤ xs.length ∧ lB.length ≤ ys.length ∧ hA.length ≤ xs.length ∧ hB.length ≤ ys.length) := by
  subst e1 e2 e3 e4
  have a := cut_le hx p
  have b := cut_le hy p
  simp only [List.length_take, List.length_drop]
  refine ⟨⟨cut_val xs p, cut_val ys p⟩, ⟨a.1, a.2.1, b.1, b.2.1⟩, ?_, by omega, by omega⟩
  rcases Nat.lt_or_ge p xs.length with h | h
  · have := cut_lt hx nx h0 h
    omega
  · have := cut_lt hy ny h0 (by omega)
    omega
/-- cut(n, place), its parts under names. -/
theorem cut_ex {lo : Nat} {b off len cap : Nat} {zs : List Int} {w : World} (h : Seg lo w (.slice (some ⟨b, off, none⟩) len cap) zs) (hl : len ≤ 10000) (place : Nat) (hp : place ≤ 10000) :
    Calls Try.prog 61 #[.slice (some ⟨b, off, none⟩) len cap, .int .i64 place] w fun e w' => ∃ (a1 a2 : Option Addr) (c1 c2 : Nat) (ls hs : List Int), e = .returned (.tuple #[.slice a1 ls.length c1, .slice a2 hs.length c2]) ∧
      Seg lo w' (.slice a1 ls.length c1) ls ∧ Seg lo w' (.slice a2 hs.length c2) hs ∧ Hid (ls = zs.take place ∧ hs = zs.drop place) ∧ Below w.heap.size w w' := by
  refine (cut_any h hl place hp).mono ?_
  rintro e w' ⟨c1, c2, a2, rfl, h1, h2, hb⟩
  exact ⟨_, a2, c1, c2, zs.take place, zs.drop place, rfl, h1, h2, ⟨rfl, rfl⟩, hb⟩

set_option maxRecDepth 100000 in
set_option maxHeartbeats 4000000 in
theorem halves_any (bL bH least : Nat) (hleast : 2 ≤ least ∧ least ≤ 1000) : ∀ (N : Nat) {lo lo' : Nat} {sa sb : Value} {xs ys : List Int} {w : World}, Seg lo w sa xs → Seg lo' w sb ys → xs.length ≤ 4000 → ys.length ≤ 4000 → val xs + val ys < (N : Int) →
    bL < w.heap.size → bH < w.heap.size → w.cell? ⟨bL, 0, none⟩ = some (.int .i64 least) → w.cell? ⟨bH, 0, none⟩ = some (.func (.func 60) #[] #[.pointer (some ⟨bL, 0, none⟩), .pointer (some ⟨bH, 0, none⟩)]) →
    Calls Try.prog 60 #[sa, sb, .pointer (some ⟨bL, 0, none⟩), .pointer (some ⟨bH, 0, none⟩)] w fun e w' => ∃ (a : Option Addr) (cap : Nat) (zs : List Int), e = .returned (.slice a zs.length cap) ∧ Seg w.heap.size w' (.slice a zs.length cap) zs ∧ Norm zs ∧ val zs = val xs * val ys ∧ zs.length ≤ xs.length + ys.length ∧ Below w.heap.size w w'
  | 0, lo, lo', sa, sb, xs, ys, w, ha, hb, hla, hlb, hN, _, _, _, _ => by
    have := val_nonneg ha.words; have := val_nonneg hb.words; omega
  | N + 1, lo, lo', sa, sb, xs, ys, w, ha, hb, hla, hlb, hN, hbL, hbH, hcL, hcH => by
    have IH := @halves_any bL bH least hleast N
    have HN := hide hN
    clear hN
    go_enter Try.func60, Try.ntmps60
    go_wp2_with fail
    refine (tbare_any ha (by omega)).mono ?_
    rintro e w1 ⟨a1, cap1, xs1, rfl, hs1, hn1, hv1, hl1, hb1⟩
    go_wp2_with fail
    refine (tbare_any (hb.below hb1) (by omega)).mono ?_
    rintro e w2 ⟨a2, cap2, ys2, rfl, hs2, hn2, hv2, hl2, hb2⟩
    replace hs1 := hs1.below hb2
    have hb12 : Below w.heap.size w w2 := hb1.trans (hb2.mono hb1.size)
    have HV : Hid (val xs1 = val xs ∧ val ys2 = val ys) := ⟨hv1, hv2⟩
    replace hcL := (hb12.cell (p := ⟨bL, 0, none⟩) hbL).trans hcL
    replace hcH := (hb12.cell (p := ⟨bH, 0, none⟩) hbH).trans hcH
    replace hbL : bL < w2.heap.size := Nat.lt_of_lt_of_le hbL hb12.size
    replace hbH : bH < w2.heap.size := Nat.lt_of_lt_of_le hbH hb12.size
    clear hv1 hv2 hb2 hb1 ha hb
    obtain ⟨mn, hmn⟩ : ∃ mn : Nat, mn = min xs1.length ys2.length := ⟨_, rfl⟩
    obtain ⟨mx, hmx⟩ : ∃ mx : Nat, mx = max xs1.length ys2.length := ⟨_, rfl⟩
    have hmin : min (xs1.length : Int) (ys2.length : Int) = (mn : Int) := by omega
    have hmax : max (xs1.length : Int) (ys2.length : Int) = (mx : Int) := by omega
    have HM : Hid (mn = min xs1.length ys2.length ∧ mx = max xs1.length ys2.length) := ⟨hmn, hmx⟩
    clear hmn hmx
    by_cases hls : mn < least
    · have hlsI : (mn : Int) < (least : Int) := by omega
      go_wp2_with fail
      refine (school_any hs1 hs2 (by omega) (by omega)).mono ?_
      rintro e w3 ⟨a3, cap3, zs, rfl, hs3, hn3, hv3, hl3, hb3⟩
      have HV3 : Hid (val zs = val xs * val ys) := by rw [Hid, hv3, HV.out.1, HV.out.2]
      clear hv3
      go_wp2
      go_ret
      exact ⟨_, _, zs, rfl, hs3.mono hb12.size, hn3, HV3.out, by omega, hb12.trans (hb3.mono hb12.size)⟩
    · have hlsI : ¬ (mn : Int) < (least : Int) := by omega
      have hml : mn ≤ xs1.length ∧ mn ≤ ys2.length ∧ xs1.length ≤ mx ∧ ys2.length ≤ mx ∧ mx ≤ 4000 := by have := HM.out; omega
      obtain ⟨p, hp⟩ : ∃ p : Nat, p = (mx + 1) / 2 := ⟨_, rfl⟩
      have hp1 : 0 < p ∧ p < mx ∧ p + 1 ≤ mx ∧ mx ≤ 2 * p := by omega
      have hq : ((mx : Int) + 1) / 2 = (p : Int) := by omega
      clear hp
      obtain ⟨g1, o1, rfl, _, _⟩ := hs1.row (by omega)
      obtain ⟨g2, o2, rfl, _, _⟩ := hs2.row (by omega)
      have hct1 := cut_ex hs1 (by omega) p (by omega)
      go_wp2_with fail
      refine hct1.mono ?_
      rintro e w3 ⟨q1, q2, c1, c2, lA, hA, rfl, hlA, hhA, HA, hb3⟩
      have hct2 := cut_ex (hs2.below hb3) (by omega) p (by omega)
      clear hct1
      go_wp2_with fail
      refine hct2.mono ?_
      rintro e w4 ⟨q3, q4, c3, c4, lB, hB, rfl, hlB, hhB, HB, hb4⟩
      replace hlA := hlA.below hb4
      replace hhA := hhA.below hb4
      have hb24 : Below w2.heap.size w2 w4 := hb3.trans (hb4.mono hb3.size)
      replace hcL := (hb24.cell (p := ⟨bL, 0, none⟩) hbL).trans hcL
      replace hcH := (hb24.cell (p := ⟨bH, 0, none⟩) hbH).trans hcH
      replace hbL : bL < w4.heap.size := Nat.lt_of_lt_of_le hbL hb24.size
      replace hbH : bH < w4.heap.size := Nat.lt_of_lt_of_le hbH hb24.size
      obtain ⟨HVC, h0s, HD, hpl, hxl⟩ := halves_facts hs1.words hs2.words hn1 hn2 HM.out.2 hp1.1 hp1.2.1 hp1.2.2.2 HA.out.1 HA.out.2 HB.out.1 HB.out.2
      have HVC := hide HVC
      have H0S := hide h0s
      have HD : Hid (val lA + val lB < (N : Int) ∧ val hA + val hB < (N : Int) ∧ val lA + val hA + (val lB + val hB) < (N : Int)) := by have := HV.out; have := HN.out; rw [Hid]; omega
      have hb4w : Below w.heap.size w w4 := hb12.trans (hb24.mono hb12.size)
      have HW := hide (mul_fits hs1.words hs2.words)
      clear hct2 hs1 hs2 hn1 hn2 HA HB hb3 hb4 hb24 h0s
      have hlow : ∀ W, Below w4.heap.size w4 W → Calls Try.prog 60 #[.slice q1 lA.length c1, .slice q3 lB.length c3, .pointer (some ⟨bL, 0, none⟩), .pointer (some ⟨bH, 0, none⟩)] W fun e w' => ∃ (a : Option Addr) (cap : Nat) (zs : List Int), e = .returned (.slice a zs.length cap) ∧ Seg W.heap.size w' (.slice a zs.length cap) zs ∧ Norm zs ∧ Hid (val zs = val lA * val lB) ∧ zs.length ≤ lA.length + lB.length ∧ Below W.heap.size W w' := fun W hW =>
        IH (hlA.below hW) (hlB.below hW) (by omega) (by omega) HD.out.1 (Nat.lt_of_lt_of_le hbL hW.size) (Nat.lt_of_lt_of_le hbH hW.size) ((hW.cell (p := ⟨bL, 0, none⟩) hbL).trans hcL) ((hW.cell (p := ⟨bH, 0, none⟩) hbH).trans hcH)
      have hhigh : ∀ W, Below w4.heap.size w4 W → Calls Try.prog 60 #[.slice q2 hA.length c2, .slice q4 hB.length c4, .pointer (some ⟨bL, 0, none⟩), .pointer (some ⟨bH, 0, none⟩)] W fun e w' => ∃ (a : Option Addr) (cap : Nat) (zs : List Int), e = .returned (.slice a zs.length cap) ∧ Seg W.heap.size w' (.slice a zs.length cap) zs ∧ Norm zs ∧ Hid (val zs = val hA * val hB) ∧ zs.length ≤ hA.length + hB.length ∧ Below W.heap.size W w' := fun W hW =>
        IH (hhA.below hW) (hhB.below hW) (by omega) (by omega) HD.out.2.1 (Nat.lt_of_lt_of_le hbL hW.size) (Nat.lt_of_lt_of_le hbH hW.size) ((hW.cell (p := ⟨bL, 0, none⟩) hbL).trans hcL) ((hW.cell (p := ⟨bH, 0, none⟩) hbH).trans hcH)
      go_wp2_with fail
      go_cut [12, 13] from 48 (fun v12 v13 wx => ∃ (a5 a6 : Option Addr) (k5 k6 : Nat) (lw hg : List Int), v12 = .slice a5 lw.length k5 ∧ v13 = .slice a6 hg.length k6 ∧ Seg w4.heap.size wx (.slice a5 lw.length k5) lw ∧ Seg w4.heap.size wx (.slice a6 hg.length k6) hg ∧ Norm lw ∧ Norm hg ∧ Hid (val lw = val lA * val lB) ∧ Hid (val hg = val hA * val hB) ∧ lw.length ≤ lA.length + lB.length ∧ hg.length ≤ hA.length + hB.length ∧ Below w4.heap.size w4 wx)
      case first =>
        go_region_with (first
          | (go_at_call 60
             refine (hlow _ ?_).mono ?_
             exact ⟨rfl, rfl, rfl, Nat.le_refl _, fun _ _ => rfl⟩
             rintro e w5 ⟨a5, k5, lw, rfl, hs5, hn5, HV5, hl5, hb5⟩
             have hb5' : Below w4.heap.size w4 w5 := ⟨hb5.1, hb5.2, hb5.3, hb5.4, hb5.5⟩
             have hcH5 := (hb5'.cell (p := ⟨bH, 0, none⟩) hbH).trans hcH
             clear hb5 hlow)
          | (go_at_call 60
             refine (hhigh _ ?_).mono ?_
             exact ⟨hb5'.1, hb5'.2, hb5'.3, hb5'.4, hb5'.5⟩
             rintro e w6 ⟨a6, k6, hg, rfl, hs6, hn6, HV6, hl6, hb6⟩
             have hb6' : Below w5.heap.size w5 w6 := ⟨hb6.1, hb6.2, hb6.3, hb6.4, hb6.5⟩
             clear hb6))
        all_goals
          go_wp2_with fail
          go_meet
          case rel =>
            exact ⟨a5, a6, k5, k6, lw, hg, rfl, rfl, hs5.below ⟨hb6'.1, hb6'.2, hb6'.3, hb6'.4, hb6'.5⟩, hs6.mono hb5'.size, hn5, hn6, HV5, HV6, hl5, hl6, hb5'.trans (hb6'.mono hb5'.size)⟩
      case rest =>
        obtain ⟨a5, a6, k5, k6, lw, hg, rfl, rfl, hs5, hs6, hn5, hn6, HV5, HV6, hl5, hl6, hbc⟩ := hcut
        obtain ⟨wd, hwd⟩ : ∃ wd, wd = wc := ⟨_, rfl⟩
        subst hwd
        have hcHc := (hbc.cell (p := ⟨bH, 0, none⟩) hbH).trans hcH
        have hsumA : ∀ W, Below w4.heap.size w4 W → Calls Try.prog 24 #[.slice q1 lA.length c1, .slice q2 hA.length c2] W fun e w' => ∃ (a : Option Addr) (cap : Nat) (zs : List Int), e = .returned (.slice a zs.length cap) ∧ Seg W.heap.size w' (.slice a zs.length cap) zs ∧ Norm zs ∧ Hid (val zs = val lA + val hA) ∧ zs.length ≤ max lA.length hA.length + 1 ∧ Below W.heap.size W w' := fun W hW =>
          add_any (hlA.below hW) (hhA.below hW) (by omega) (by omega)
        have hsumB : ∀ W, Below w4.heap.size w4 W → Calls Try.prog 24 #[.slice q3 lB.length c3, .slice q4 hB.length c4] W fun e w' => ∃ (a : Option Addr) (cap : Nat) (zs : List Int), e = .returned (.slice a zs.length cap) ∧ Seg W.heap.size w' (.slice a zs.length cap) zs ∧ Norm zs ∧ Hid (val zs = val lB + val hB) ∧ zs.length ≤ max lB.length hB.length + 1 ∧ Below W.heap.size W w' := fun W hW =>
          add_any (hlB.below hW) (hhB.below hW) (by omega) (by omega)
        clear hlow hhigh
        go_wp2_with fail
        go_cut [14] from 56 (fun v14 wx => ∃ (a9 : Option Addr) (k9 : Nat) (cr : List Int), v14 = .slice a9 cr.length k9 ∧ Seg wd.heap.size wx (.slice a9 cr.length k9) cr ∧ Norm cr ∧ Hid (val cr = (val lA + val hA) * (val lB + val hB)) ∧ cr.length ≤ 9000 ∧ Below wd.heap.size wd wx)
        case first =>
          go_region_with (first
            | (go_at_call 24
               refine (hsumA _ ?_).mono ?_
               exact ⟨hbc.1, hbc.2, hbc.3, hbc.4, hbc.5⟩
               rintro e w7 ⟨a7, k7, sA, rfl, hs7, hn7, HV7, hl7, hb7⟩
               have hb7' : Below wd.heap.size wd w7 := ⟨hb7.1, hb7.2, hb7.3, hb7.4, hb7.5⟩
               have hb47 : Below w4.heap.size w4 w7 := hbc.trans (hb7'.mono hbc.size)
               have hcH7 := (hb47.cell (p := ⟨bH, 0, none⟩) hbH).trans hcH
               clear hb7 hsumA)
            | (go_at_call 24
               refine (hsumB _ ?_).mono ?_
               exact hb47
               rintro e w8 ⟨a8, k8, sB, rfl, hs8, hn8, HV8, hl8, hb8⟩
               have hb48 : Below w4.heap.size w4 w8 := hb47.trans (hb8.mono hb47.size)
               have hcH8 := (hb48.cell (p := ⟨bH, 0, none⟩) hbH).trans hcH
               have hcL8 := (hb48.cell (p := ⟨bL, 0, none⟩) hbL).trans hcL
               have hcr := IH (hs7.below hb8) hs8 (by omega) (by omega) (by rw [HV7.out, HV8.out]; exact HD.out.2.2) (Nat.lt_of_lt_of_le hbL hb48.size) (Nat.lt_of_lt_of_le hbH hb48.size) hcL8 hcH8
               clear hsumB)
            | (go_at_call 60
               refine hcr.mono ?_
               rintro e w9 ⟨a9, k9, cr, rfl, hs9, hn9, hv9, hl9, hb9⟩
               have HV9 : Hid (val cr = (val lA + val hA) * (val lB + val hB)) := by rw [Hid, hv9, HV7.out, HV8.out]
               clear hv9 hcr))
          all_goals
            go_wp2_with fail
            go_meet
            case rel =>
              exact ⟨a9, k9, cr, rfl, hs9.mono (Nat.le_trans hb7'.size hb8.size), hn9, HV9, by omega, hb7'.trans ((hb8.trans (hb9.mono hb8.size)).mono hb7'.size)⟩
        case rest =>
          obtain ⟨a9, k9, cr, rfl, hs9, hn9, HV9, hl9, hb9⟩ := hcut
          have hb4c : Below w4.heap.size w4 wc := hbc.trans (hb9.mono hbc.size)
          have hcx := cross_any hs9 (hs5.below hb9) (hs6.below hb9) (by omega) (by omega) (by omega) (by rw [HV5.out, HV6.out, HV9.out]; exact cross_le H0S.out.1 H0S.out.2.1 H0S.out.2.2.1 H0S.out.2.2.2)
          clear hsumA hsumB hcHc IH
          go_wp2_with fail
          refine hcx.mono ?_
          rintro e w10 ⟨a10, k10, cs, rfl, hs10, hn10, hv10, hl10, hb10⟩
          have HT := hide (halves_total HVC.out.1 HVC.out.2 HV5.out HV6.out HV9.out hv10)
          have hj := join_any ((hs5.below hb9).below hb10) hs10 ((hs6.below hb9).below hb10) hn10 hn6 p (xs1.length + ys2.length) (by omega) (by omega) (by omega) (by omega) (by omega) (by omega) (by rw [HT.out]; exact HW.out)
          rw [HT.out, Int.natCast_add] at hj
          clear hcx hv10
          go_wp2_with fail
          refine hj.mono ?_
          rintro e w11 ⟨a11, k11, zs, rfl, hs11, hn11, hv11, hl11, hb11⟩
          have HV11 : Hid (val zs = val xs * val ys) := by rw [Hid, hv11, HV.out.1, HV.out.2]
          have hbw10 : Below w.heap.size w w10 := hb4w.trans ((hb4c.trans (hb10.mono hb4c.size)).mono hb4w.size)
          clear hv11 hj
          go_wp2
          go_ret
          exact ⟨_, _, zs, rfl, hs11.mono hbw10.size, hn11, HV11.out, by omega, hbw10.trans (hb11.mono hbw10.size)⟩
end Go.Proofs.Ytkehlclnljadjaa
