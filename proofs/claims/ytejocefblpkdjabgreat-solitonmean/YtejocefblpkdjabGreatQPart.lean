/-
  The walk of the program's Part: a number by a digit.
-/
import Derived.Test.YtejocefblpkdjabGreatJBare
import Derived.Test.YtejocefblpkdjabGreatDiv64
import Derived.Test.YtejocefblpkdjabGreatJRefA
import Derived.Test.YtejocefblpkdjabGreatJCmp
import Derived.Test.YtejocefblpkdjabGreatRoundHeld
import Derived.Test.YtejocefblpkdjabGreatJEnds
import Derived.Stop.RegionWithIn
namespace Go.Proofs.YtejocefblpkdjabGreat
open Go.RowKit Go.Shelf

attribute [local go_sem] Oper.semAt_some

set_option maxRecDepth 100000 in
set_option maxHeartbeats 2000000 in
theorem partw_zero (sv : Value) (w : World) :
    Calls Tryz.prog 66 #[sv, .int .u64 0] w fun e w' => e = .returned (.tuple #[.slice none 0 0, .int .u64 0, .int .i64 5]) ∧ Below w.heap.size w w' := by
  refine (callsIn_wide (n := 4)).1 ?_
  refine callsIn_of_wp_marks Tryz.func66 rfl trivial ?_ rfl
  simp only [Tryz.ntmps66, List.size_toArray, List.length_cons, List.length_nil, Nat.reduceAdd, Nat.reduceSub, Array.replicate_succ, Array.replicate_zero, List.push_toArray, List.append_toArray, List.nil_append, List.cons_append]
  have hB0 : Below w.heap.size w (w.alloc (.cells #[.int .u64 0] 71)) := (Below.refl _ w).alloc (Nat.le_refl _) _
  gi_wp2
  refine ⟨.tuple #[.slice none 0 0, .int .u64 0, .int .i64 5], ?_, rfl, hB0⟩
  simp [results, Tryz.f66, go_sem]

/-- One digit of a quotient by a digit. -/
theorem part_step {ts qs : List Int} {m : Nat} {x lf q r : Int} (hm : m < qs.length) (e : val (ts.drop (m + 1)) = val (qs.drop (m + 1)) * x + lf) (hd : lf * 18446744073709551616 + ts[m]?.getD 0 = x * q + r) :
    val (ts.drop m) = val ((qs.set m q).drop m) * x + r := by
  have e2 : (qs.set m q).drop (m + 1) = qs.drop (m + 1) := List.drop_set_of_lt (by omega)
  rw [val_drop ts m, val_drop (qs.set m q) m, e, e2, List.getElem?_set_self hm, Option.getD_some, Int.mul_add, Int.add_mul, Int.mul_comm q x, Int.mul_assoc]
  omega

set_option maxRecDepth 100000 in
set_option maxHeartbeats 2000000 in
theorem partw_yes {lo : Nat} {sv : Value} {xs : List Int} {w : World} (ha : Seg lo w sv xs) (hla : xs.length ≤ 4000) (x : Int) (hx : 0 < x ∧ x < 18446744073709551616) :
    Calls Tryz.prog 66 #[sv, .int .u64 x] w fun e w' => ∃ (a1 : Option Addr) (c1 : Nat) (qs : List Int), e = .returned (.tuple #[.slice a1 qs.length c1, .int .u64 (val xs % x), .int .i64 0]) ∧ Seg w.heap.size w' (.slice a1 qs.length c1) qs ∧ Norm qs ∧ val qs = val xs / x ∧ qs.length ≤ xs.length ∧ Below w.heap.size w w' := by
  refine (callsIn_wide (n := 4)).1 ?_
  refine callsIn_of_wp_marks Tryz.func66 rfl trivial ?_ rfl
  simp only [Tryz.ntmps66, List.size_toArray, List.length_cons, List.length_nil, Nat.reduceAdd, Nat.reduceSub, Array.replicate_succ, Array.replicate_zero, List.push_toArray, List.append_toArray, List.nil_append, List.cons_append]
  have hx0 : (x == 0) = false := beq_eq_false_iff_ne.2 (by omega)
  gi_wp2_with fail
  have hB0 : Below w.heap.size w (w.alloc (.cells #[.int .u64 x] 71)) := (Below.refl _ w).alloc (Nat.le_refl _) _
  have bX := Boxed.new w 71 (.int .u64 x)
  obtain ⟨w0, hw0⟩ : ∃ w0, w.alloc (.cells #[.int .u64 x] 71) = w0 := ⟨_, rfl⟩
  have hsz0 : w0.heap.size = w.heap.size + 1 := by rw [← hw0]; simp
  rw [hw0] at hB0 bX ⊢
  have HZ := hide hsz0
  clear hw0 hsz0
  have ha0 := ha.below hB0
  refine ⟨trivial, ?_⟩
  refine (callsIn_wide.2 (trim_any ha0 (by omega))).mono ?_
  rintro e w1 ⟨a1, c1, ts, rfl, hs1, hn1, hv1, hl1, hb1⟩
  have hB1 := hB0.trans (hb1.mono hB0.size)
  have bX1 := Boxed.belowed bX hb1 (by have := HZ.out; omega)
  have hwt := hs1.words
  obtain ⟨n, hn⟩ : ∃ n, ts.length = n := ⟨_, rfl⟩
  have HN := hide hn
  have hs1' := hs1
  rw [hn] at hs1 hl1 ⊢
  have hsep : 0 < n → ∀ b o, a1 = some ⟨b, o, none⟩ → w.heap.size < b ∧ b < w1.heap.size := fun h b o e => by
    obtain ⟨b', o', e2, h1, h2⟩ := hs1.row h
    rw [e] at e2
    cases e2
    have := HZ.out
    omega
  have hsz1 : w.heap.size < w1.heap.size := by have := HZ.out; have := hb1.size; omega
  have HV1 := hide hv1
  clear hn hv1 hs1'
  gi_wp2_with fail
  refine ⟨trivial, ?_⟩
  refine (backward_in Fence.wide _ trivial rfl _ _ _ _).mono ?_
  rintro e w5 ⟨rfl, rfl⟩
  gi_wp2_with fail
  have bQ := ((Boxed.new w1 27 (.slice a1 n c1)).alloc (.cells #[.int .u64 0] 71)).alloc (.cells #[.slice a1 n c1] 27)
  have bL := (Boxed.new (w1.alloc (.cells #[.slice a1 n c1] 27)) 71 (.int .u64 0)).alloc (.cells #[.slice a1 n c1] 27)
  have bS := Boxed.new ((w1.alloc (.cells #[.slice a1 n c1] 27)).alloc (.cells #[.int .u64 0] 71)) 27 (.slice a1 n c1)
  have hB13 : Below w1.heap.size w1 (((w1.alloc (.cells #[.slice a1 n c1] 27)).alloc (.cells #[.int .u64 0] 71)).alloc (.cells #[.slice a1 n c1] 27)) := (((Below.refl _ w1).alloc (Nat.le_refl _) _).alloc (by simp) _).alloc (by simp; omega) _
  rw [World.size_alloc] at bL bS
  rw [World.size_alloc] at bS
  obtain ⟨w3, hw3⟩ : ∃ w3, ((w1.alloc (.cells #[.slice a1 n c1] 27)).alloc (.cells #[.int .u64 0] 71)).alloc (.cells #[.slice a1 n c1] 27) = w3 := ⟨_, rfl⟩
  have hsz3 : w3.heap.size = w1.heap.size + 3 := by rw [← hw3]; simp
  rw [hw3] at bQ bL bS hB13 ⊢
  have HZ3 := hide hsz3
  clear hw3 hsz3
  have bX3 := Boxed.belowed bX1 hB13 hsz1
  have hB3 := hB1.trans (hB13.mono hB1.size)
  have hs3 := (hs1.mono hB0.size).below hB13
  refine wpIn_rangeFunc_feeds rfl (by omega) (gf := 69) (lb := #[.pointer (some ⟨w1.heap.size + 1 + 1, 0, none⟩)]) rfl trivial (enters_of Tryz.func69 (by kernel_rfl) rfl)
    (backward_feeds Fence.wide 3 trivial rfl (by omega) (w1.heap.size + 1 + 1) a1 n c1 ts (by omega) w3) (Below.refl _ _) (fun _ => rfl)
    (fun pre V => ∃ (qs : List Int) (lf : Int), Boxed V w.heap.size 71 (.int .u64 x) ∧ Boxed V w1.heap.size 27 (.slice a1 n c1) ∧ Boxed V (w1.heap.size + 1) 71 (.int .u64 lf) ∧ Boxed V (w1.heap.size + 1 + 1) 27 (.slice a1 n c1) ∧ Seg w.heap.size V (.slice a1 n c1) qs ∧ (0 ≤ lf ∧ lf < x) ∧
      Hid (∀ j, j + pre.length < n → qs[j]?.getD 0 = ts[j]?.getD 0) ∧ Hid (val (ts.drop (n - pre.length)) = val (qs.drop (n - pre.length)) * x + lf) ∧ Below w.heap.size w V)
    (fun _ _ _ => False)
    (fun s A B row hs hg hr => by
      obtain ⟨qs, lf, b1, b2, b3, b4, h5, h6, h7, h8, h9⟩ := hs
      have hr' := fun r e => (hr r e).2
      exact ⟨qs, lf, boxed_own w.heap.size 71 (fun _ : Unit => .int .u64 x) () A B row b1 hg hr', boxed_own w1.heap.size 27 (fun _ : Unit => .slice a1 n c1) () A B row b2 hg hr', boxed_own (w1.heap.size + 1) 71 (fun _ : Unit => .int .u64 lf) () A B row b3 hg hr',
        boxed_own (w1.heap.size + 1 + 1) 27 (fun _ : Unit => .slice a1 n c1) () A B row b4 hg hr', h5.kept hg hr', h6, h7, h8, ownFrom_below (Nat.le_refl _) hB3.size s A B row h9 hg hr⟩)
    (fun _ _ _ _ _ hs _ _ => hs)
    (fun pre V h => by
      obtain ⟨qs, lf, b1, b2, b3, b4, h5, h6, h7, h8, h9⟩ := h
      refine ⟨b4.cell, fun j hj => ?_⟩
      obtain ⟨b, off, rfl, _, _⟩ := h5.row (by omega)
      exact ⟨b, off, rfl, by rw [(h5.cell (j := j) (by omega)).1, h7.out j hj]⟩)
    ⟨ts, 0, bX3, bQ, bL, bS, hs3, by omega, fun _ _ => rfl, by rw [Hid, List.length_nil, Nat.sub_zero, List.drop_of_length_le (by have := HN.out; omega)]; simp [val_nil], hB3⟩
    (fun p => { tmps := #[sv, .int .u64 x, undef, .pointer (some ⟨w.heap.size, 0, none⟩), .slice none 0 0, .int .u64 0, .int .i64 0, .pointer (some ⟨w1.heap.size, 0, none⟩), .pointer (some ⟨w1.heap.size + 1, 0, none⟩), .int .i64 (p.1 : Int), .int .u64 (ts[p.1]?.getD 0), .int .u64 x, .bool false, sv, .slice a1 n c1, .slice a1 n c1, .func (.func 69) #[] #[.pointer (some ⟨w1.heap.size + 1 + 1, 0, none⟩)], .int .i64 (p.1 : Int), .int .u64 (ts[p.1]?.getD 0), undef, undef, undef, undef, undef, undef, undef, undef, undef, undef, undef, undef, undef], defers := [] }) ?assign ?body ?done ?stop
  case assign =>
    intro l p W K hK
    gi_wp2
    exact hK
  case body =>
    rintro l pre ⟨m, hm⟩ V ⟨qs, lf, bX, bQ, bL, bS, hS, hl, HD, HE, hB⟩ ⟨_, hnx⟩
    dsimp only at hnx ⊢
    obtain ⟨b, off, rfl, _, hbV⟩ := hS.row (by omega)
    obtain ⟨hsb1, hsb2⟩ := hsep (by omega) b off rfl
    have hql := hS.len.1
    have hd := hwt.getD m
    obtain ⟨hce, hfr⟩ := hS.cell (j := m) hm
    have hcX := bX.cell
    have hcQ := bQ.cell
    have hcL := bL.cell
    have hfL := bL.frozen
    have hdv := fun w => div64_any lf (ts[m]?.getD 0) x hl hd hx.2 w
    have hdq : lf * 18446744073709551616 + ts[m]?.getD 0 = x * ((lf * 18446744073709551616 + ts[m]?.getD 0) / x) + (lf * 18446744073709551616 + ts[m]?.getD 0) % x := (Int.mul_ediv_add_emod _ _).symm
    have hr0 := Int.emod_nonneg (lf * 18446744073709551616 + ts[m]?.getD 0) (show x ≠ 0 by omega)
    have hr1 := Int.emod_lt_of_pos (lf * 18446744073709551616 + ts[m]?.getD 0) hx.1
    have hq0 := Int.ediv_nonneg (a := lf * 18446744073709551616 + ts[m]?.getD 0) (b := x) (by omega) (by omega)
    have hq1 := Int.ediv_lt_of_lt_mul (a := lf * 18446744073709551616 + ts[m]?.getD 0) (b := 18446744073709551616) (c := x) hx.1 (by omega)
    generalize hqe : (lf * 18446744073709551616 + ts[m]?.getD 0) / x = q at *
    generalize hre : (lf * 18446744073709551616 + ts[m]?.getD 0) % x = r at *
    have HE' : Hid (val (ts.drop m) = val ((qs.set m q).drop m) * x + r) := part_step (by omega) (by have := HE.out; rwa [show n - pre.length = m + 1 by omega] at this) hdq
    have HD' : Hid (∀ j, j < m → (qs.set m q)[j]?.getD 0 = ts[j]?.getD 0) := fun j hj => by rw [List.getElem?_set_ne (by omega)]; exact HD.out j (by omega)
    have HQL := hide hql
    have hmn : (m : Int) < (n : Int) := by omega
    have HB : Hid (Boxed V w.heap.size 71 (.int .u64 x) ∧ Boxed V w1.heap.size 27 (.slice (some ⟨b, off, none⟩) n c1) ∧ Boxed V (w1.heap.size + 1) 71 (.int .u64 lf) ∧ Boxed V (w1.heap.size + 1 + 1) 27 (.slice (some ⟨b, off, none⟩) n c1) ∧ Seg w.heap.size V (.slice (some ⟨b, off, none⟩) n c1) qs ∧ Below w.heap.size w V) := ⟨bX, bQ, bL, bS, hS, hB⟩
    have HX := hide (And.intro hnx (And.intro hsb1 (And.intro hsb2 (And.intro hm (And.intro hq0 (And.intro hq1 (And.intro hr0 hr1)))))))
    have haft : ∀ w', Below V.drew.heap.size V.drew w' → w'.cell? ⟨w.heap.size, 0, none⟩ = some (.int .u64 x) ∧ w'.cell? ⟨w1.heap.size, 0, none⟩ = some (.slice (some ⟨b, off, none⟩) n c1) ∧ w'.cell? ⟨w1.heap.size + 1, 0, none⟩ = some (.int .u64 lf) ∧ w'.frozen? ⟨w1.heap.size + 1, 0, none⟩ = false ∧ w'.cell? ⟨b, off + m, none⟩ = some (.int .u64 (qs[m]?.getD 0)) ∧ w'.frozen? ⟨b, off + m, none⟩ = false ∧ (w'.setCell ⟨b, off + m, none⟩ (.int .u64 q)).cell? ⟨w1.heap.size + 1, 0, none⟩ = some (.int .u64 lf) ∧ (w'.setCell ⟨b, off + m, none⟩ (.int .u64 q)).frozen? ⟨w1.heap.size + 1, 0, none⟩ = false ∧ Below V.heap.size V w' := fun w' hb => by
      have hb' : Below V.heap.size V w' := (Below.refl _ V).drew.trans (by exact hb)
      exact ⟨(Boxed.belowed bX hb' bX.lt).cell, (Boxed.belowed bQ hb' bQ.lt).cell, (Boxed.belowed bL hb' bL.lt).cell, (Boxed.belowed bL hb' bL.lt).frozen, (hb'.cell (p := ⟨b, off + m, none⟩) hbV).trans hce, (hb'.frozen (p := ⟨b, off + m, none⟩) hbV).trans hfr, (Boxed.aside (Boxed.belowed bL hb' bL.lt) (by omega) _ _).cell, (Boxed.aside (Boxed.belowed bL hb' bL.lt) (by omega) _ _).frozen, hb'⟩
    have HAFT := hide haft
    have HDV := hide hdv
    clear hqe hre hdq HE HD hql hdv haft hnx hsb1 hsb2 hq0 hq1 hr0 hr1 bX bQ bL bS hS hB hd hl hx hbV hfL hfr hx0 hsep hsz1 hwt bX1 bX3 hB0 hB1 hB13 hB3 hs1 hs3 ha ha0 hla hb1 hn1 hl1
    gi_wp2_with fail
    refine wpIn_round_held (S := fun W => W.cell? ⟨w.heap.size, 0, none⟩ = some (.int .u64 x) ∧ W.cell? ⟨w1.heap.size, 0, none⟩ = some (.slice (some ⟨b, off, none⟩) n c1)) (by kernel_rfl) (by kernel_rfl) (by rintro ⟨_, _, h⟩; exact h) ⟨hcX, hcQ⟩ (fun hHeld => ?_)
    simp only [List.size_toArray, List.length_cons, List.length_nil, Nat.reduceAdd]
    refine wpAnyH_take (i := 0) (v := ?_) rfl (by kernel_rfl) (by kernel_rfl) (by kernel_rfl) (fun _ _ _ h => h) (Or.inl ⟨by rfl, ?_⟩) (by assumption) ?_
    rotate_left
    · intro w hSw
      try dsimp only at hSw
      go_simp
      try with_reducible rfl
    simp only [Act.put, List.setIfInBounds_toArray, List.set_cons_zero, List.set_cons_succ, List.getElem_toArray, List.getElem_cons_zero]
    refine wpAnyH_take (i := 1) (v := ?_) rfl (by kernel_rfl) (by kernel_rfl) (by kernel_rfl) (fun _ _ _ h => h) (Or.inl ⟨by rfl, ?_⟩) (by assumption) ?_
    rotate_left
    · intro w hSw
      try dsimp only at hSw
      go_simp
      try with_reducible rfl
    simp only [Act.put, List.setIfInBounds_toArray, List.set_cons_zero, List.set_cons_succ, List.getElem_toArray, List.getElem_cons_zero, List.getElem_cons_succ]
    refine wpAnyH_take (i := 3) (v := ?_) rfl (by kernel_rfl) (by kernel_rfl) (by kernel_rfl) (fun _ _ _ h => h) (Or.inl ⟨by rfl, ?_⟩) (by assumption) ?_
    rotate_left
    · intro w hSw
      try dsimp only at hSw
      go_simp
      try with_reducible rfl
    simp only [Act.put, List.setIfInBounds_toArray, List.set_cons_zero, List.set_cons_succ, List.getElem_toArray, List.getElem_cons_zero, List.getElem_cons_succ]
    refine wpAnyH_take (i := 4) (v := ?_) rfl (by kernel_rfl) (by kernel_rfl) (by kernel_rfl) (fun _ _ _ h => h) (Or.inl ⟨by rfl, ?_⟩) (by assumption) ?_
    rotate_left
    · intro w hSw
      try dsimp only at hSw
      go_simp
      try with_reducible rfl
    simp only [Act.put, List.setIfInBounds_toArray, List.set_cons_zero, List.set_cons_succ, List.getElem_toArray, List.getElem_cons_zero, List.getElem_cons_succ]
    refine wpAnyH_ready (rs := [2]) (by kernel_rfl) (by simp) ?_
    refine AllReadyH.cons rfl (fun K hK => ?_) AllReadyH.nil
    go_simp
    refine hK.out _ _ ?_ (fun hHeld => ?_)
    · exact ⟨hcX, hcQ⟩
    clear hK K
    try simp only [Act.put, List.setIfInBounds_toArray, List.set_cons_zero, List.set_cons_succ, List.getElem_toArray, List.getElem_cons_zero, List.getElem_cons_succ]
    refine wpAnyH_ready (rs := [5]) (by kernel_rfl) (by simp) ?_
    refine AllReadyH.cons rfl (fun K hK => ?_) AllReadyH.nil
    go_simp
    refine (HDV.out _).mono ?_
    rintro e w' ⟨rfl, hb⟩
    obtain ⟨hcX', hcQ', hcL', hfL', hce', hfr', hcL2, hfL2, hb'⟩ := HAFT.out w' hb
    clear hb
    dsimp only
    refine hK.out _ _ ?_ (fun hHeld => ?_)
    · exact ⟨hcX', hcQ'⟩
    clear hK K
    try simp only [Act.put, List.setIfInBounds_toArray, List.set_cons_zero, List.set_cons_succ, List.getElem_toArray, List.getElem_cons_zero, List.getElem_cons_succ]
    refine wpAnyH_take (i := 6) (v := ?_) rfl (by kernel_rfl) (by kernel_rfl) (by kernel_rfl) (fun _ _ _ h => h) (Or.inl ⟨by rfl, ?_⟩) (by assumption) ?_
    rotate_left
    · intro w hSw
      try dsimp only at hSw
      go_simp
      try with_reducible rfl
    simp only [Act.put, List.setIfInBounds_toArray, List.set_cons_zero, List.set_cons_succ, List.getElem_toArray, List.getElem_cons_zero, List.getElem_cons_succ]
    refine wpAnyH_take (i := 7) (v := ?_) rfl (by kernel_rfl) (by kernel_rfl) (by kernel_rfl) (fun _ _ _ h => h) (Or.inl ⟨by rfl, ?_⟩) (by assumption) ?_
    rotate_left
    · intro w hSw
      try dsimp only at hSw
      go_simp
      try with_reducible rfl
    simp only [Act.put, List.setIfInBounds_toArray, List.set_cons_zero, List.set_cons_succ, List.getElem_toArray, List.getElem_cons_zero, List.getElem_cons_succ]
    refine wpAnyH_take (i := 8) (v := ?_) rfl (by kernel_rfl) (by kernel_rfl) (by kernel_rfl) (fun _ _ _ h => h) (Or.inl ⟨by rfl, ?_⟩) (by assumption) ?_
    rotate_left
    · intro w hSw
      try dsimp only at hSw
      go_simp
      try with_reducible rfl
    simp only [Act.put, List.setIfInBounds_toArray, List.set_cons_zero, List.set_cons_succ, List.getElem_toArray, List.getElem_cons_zero, List.getElem_cons_succ]
    refine wpAnyH_take (i := 9) (v := ?_) rfl (by kernel_rfl) (by kernel_rfl) (by kernel_rfl) (fun _ _ _ h => h) (Or.inl ⟨by rfl, ?_⟩) (by assumption) ?_
    rotate_left
    · intro w hSw
      try dsimp only at hSw
      go_simp
      try with_reducible rfl
    simp only [Act.put, List.setIfInBounds_toArray, List.set_cons_zero, List.set_cons_succ, List.getElem_toArray, List.getElem_cons_zero, List.getElem_cons_succ]
    refine wpAnyH_ready (rs := [10]) (by kernel_rfl) (by simp) ?_
    refine AllReadyH.cons rfl (fun K hK => ?_) AllReadyH.nil
    go_simp
    refine hK.out _ _ ?_ (fun hHeld => ?_)
    · exact ⟨(World.cell?_setCell_other _ _ _ _ (by intro h; injection h with h1 h2; have := HX.out; omega)).trans hcX', (World.cell?_setCell_other _ _ _ _ (by intro h; injection h with h1 h2; have := HX.out; omega)).trans hcQ'⟩
    clear hK K
    try simp only [Act.put, List.setIfInBounds_toArray, List.set_cons_zero, List.set_cons_succ, List.getElem_toArray, List.getElem_cons_zero, List.getElem_cons_succ]
    refine wpAnyH_ready (rs := [11]) (by kernel_rfl) (by simp) ?_
    refine AllReadyH.cons rfl (fun K hK => ?_) AllReadyH.nil
    go_simp
    refine hK.out _ _ ?_ (fun hHeld => ?_)
    · exact ⟨(World.cell?_setCell_other _ _ _ _ (by intro h; injection h with h1 h2; have := HX.out; omega)).trans ((World.cell?_setCell_other _ _ _ _ (by intro h; injection h with h1 h2; have := HX.out; omega)).trans hcX'), (World.cell?_setCell_other _ _ _ _ (by intro h; injection h with h1 h2; have := HX.out; omega)).trans ((World.cell?_setCell_other _ _ _ _ (by intro h; injection h with h1 h2; have := HX.out; omega)).trans hcQ')⟩
    clear hK K
    try simp only [Act.put, List.setIfInBounds_toArray, List.set_cons_zero, List.set_cons_succ, List.getElem_toArray, List.getElem_cons_zero, List.getElem_cons_succ]
    refine wpAnyH_done (by kernel_rfl) ?_ _
    obtain ⟨bX, bQ, bL, bS, hS, hB⟩ := HB.out
    obtain ⟨hnx, hsb1, hsb2, -, hq0, hq1, hr0, hr1⟩ := HX.out
    have bX' := Boxed.aside (Boxed.aside (Boxed.belowed bX hb' bX.lt) (B' := b) (by omega) (off + m) (.int .u64 q)) (B' := w1.heap.size + 1) (by omega) 0 (.int .u64 r)
    have bQ' := Boxed.aside (Boxed.aside (Boxed.belowed bQ hb' bQ.lt) (B' := b) (by omega) (off + m) (.int .u64 q)) (B' := w1.heap.size + 1) (by omega) 0 (.int .u64 r)
    have bS' := Boxed.aside (Boxed.aside (Boxed.belowed bS hb' bS.lt) (B' := b) (by omega) (off + m) (.int .u64 q)) (B' := w1.heap.size + 1) (by omega) 0 (.int .u64 r)
    have bL' := Boxed.set (.int .u64 r) (Boxed.aside (Boxed.belowed bL hb' bL.lt) (B' := b) (by omega) (off + m) (.int .u64 q))
    have hS' := ((hS.below hb').set (k := m) (by have := HQL.out; omega) ⟨hq0, hq1⟩).aside (B := w1.heap.size + 1) (fun _ b2 o2 e => by cases e; omega) 0 (.int .u64 r)
    refine ⟨(keepsFrom_below hb').trans (((KeepsOthers.setCell _ _ _).trans (KeepsOthers.setCell _ _ _)).from _), trivial, qs.set m q, r, bX', bQ', bL', bS', hS', ⟨hr0, hr1⟩, ?_, ?_, ?_⟩
    · intro j hj
      rw [List.length_append] at hj
      exact HD'.out j (by simp at hj; omega)
    · have := HE'.out
      rw [Hid, List.length_append, show n - (pre.length + [(⟨m, hm⟩ : Place n)].length) = m by simp; omega]
      exact this
    · exact ((hB.trans (hb'.mono hB.size)).setCell (p := ⟨b, off + m, none⟩) (by show w.heap.size ≤ b; omega) _).setCell (p := ⟨w1.heap.size + 1, 0, none⟩) (by show w.heap.size ≤ w1.heap.size + 1; omega) _
  case done =>
    rintro D ys W hD hys ⟨qs, lf, bX, bQ, bL, bS, hS, hl, HD, HE, hB⟩ hK
    have hyl : ys.length = n := by have := congrArg List.length hys; rwa [List.length_map, upto_length] at this
    have he := HE.out
    rw [hyl, Nat.sub_self, List.drop_zero, List.drop_zero] at he
    have hvq : val qs = val xs / x ∧ lf = val xs % x := by
      rw [← HV1.out, he, Int.mul_comm]
      constructor
      · rw [Int.mul_add_ediv_left _ _ (by omega), Int.ediv_eq_zero_of_lt hl.1 hl.2, Int.add_zero]
      · rw [Int.mul_add_emod_self_left, Int.emod_eq_of_lt hl.1 hl.2]
    have HV := hide hvq
    have hql := hS.len.1
    have hcQ := bQ.cell
    have hcL := bL.cell
    clear hvq he HE HD hys hyl
    gi_wp2_with fail
    refine wpIn_wide.2 ?_
    have HQB : Hid (∀ W', Below W.heap.size W W' → Calls Tryz.prog 80 #[.slice a1 n c1] W' fun e w' => ∃ (a : Option Addr) (cap : Nat) (us : List Int), e = .returned (.slice a us.length cap) ∧ Seg w.heap.size w' (.slice a us.length cap) us ∧ Norm us ∧ val us = val qs ∧ us.length ≤ qs.length ∧ Below W'.heap.size W' w') := fun W' hW' => qbare_any (hS.below hW') (by omega)
    have HQL := hide hql
    have HDD := hide hD
    clear hql hD hS hl
    go_region_held3 (fun W' : World => W'.cell? ⟨w1.heap.size, 0, none⟩ = some (.slice a1 n c1) ∧ W'.cell? ⟨w1.heap.size + 1, 0, none⟩ = some (.int .u64 lf)) (first | exact ⟨hcQ, hcL⟩ | exact ⟨hcQ', hcL'⟩) ((go_at_call 80; refine (HQB.out _ (Below.refl _ W).drew).mono ?_; rintro e w6 ⟨a6, c6, us, rfl, hs6, hn6, hv6, hl6, hb6⟩; have hb6' : Below W.heap.size W w6 := (Below.refl _ W).drew.trans (by exact hb6); have hcQ' := (Boxed.belowed bQ hb6' bQ.lt).cell; have hcL' := (Boxed.belowed bL hb6' bL.lt).cell; have HV6 := hide hv6; have HL6 := hide hl6; clear hv6 hl6))
    have hK6 : w6.heap[D]? = some (.deferred (some [])) := (hb6'.block D (Array.getElem?_eq_some_iff.1 hK).1).trans hK
    gi_wp2
    refine ⟨by simp, .inl ⟨_, _, rfl, run_takeDeferred hK6, ?_⟩⟩
    refine ⟨.tuple #[.slice a6 us.length c6, .int .u64 lf, .int .i64 0], ?_, a6, c6, us, by rw [HV.out.2], hs6.kept (grownBy_putObj' _ D (.deferred none)) (fun r e => by cases e; exact ⟨_, hK6, rfl⟩), hn6, HV6.out.trans HV.out.1, by have := HL6.out; have := HQL.out; omega,
      (hB.trans (hb6'.mono hB.size)).trans (belowK_b (w := w) (Nat.le_refl _) w6 D _ _ (by have := hB3.size; have := HDD.out; omega) hK6 rfl rfl)⟩
    simp [results, Tryz.f66, go_sem]
  case stop =>
    rintro D c pre W _ _ h _
    exact h.elim
end Go.Proofs.YtejocefblpkdjabGreat
