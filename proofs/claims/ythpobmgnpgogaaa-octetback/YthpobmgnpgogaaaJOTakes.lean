/-
  Joined: OTakes OBackM OOwn OBack.
-/
import Derived.Test.YthpobmgnpgogaaaJOBytes
import Derived.OwnWalk
import Derived.Maps.AppendAt
namespace Go.Proofs.Ythpobmgnpgogaaa
open Go.RowKit
def tf (zs : List Int) (q : Bool × RS) (v : IV) : Bool × RS :=
  if v.raws then (decide ((rawR zs q.2 (v.zs.length : Nat)).1 = v.zs) && q.1, (rawR zs q.2 (v.zs.length : Nat)).2) else (decide (((getR zs q.2 v.k).1 : Int) = v.x) && q.1, (getR zs q.2 v.k).2)
theorem tf_raws {zs : List Int} {B D : Bool} {s : RS} {k x : Int} {a : Option Addr} {d : Nat} {ys : List Int} (h : decide ((rawR zs s (ys.length : Nat)).1 = ys) = D) : tf zs (B, s) ⟨true, k, x, a, d, ys⟩ = (D && B, (rawR zs s (ys.length : Nat)).2) := by
  unfold tf
  rw [if_pos rfl, h]
theorem tf_nums {zs : List Int} {B D : Bool} {s : RS} {k x : Int} {a : Option Addr} {d : Nat} {ys : List Int} (h : decide (((getR zs s k).1 : Int) = x) = D) : tf zs (B, s) ⟨false, k, x, a, d, ys⟩ = (D && B, (getR zs s k).2) := by
  unfold tf
  rw [if_neg (fun e => Bool.noConfusion e), h]
theorem fold_next {α β : Type} (f : β → α → β) (b : β) {is : List α} {j : Nat} {v : α} (h : is[j]? = some v) : (is.take (j + 1)).foldl f b = f ((is.take j).foldl f b) v := by
  rw [List.take_add_one, h, List.foldl_append]
  rfl
theorem cur_kinds (sv : Value) (a e f : Int) (i : Nat) : (#[sv, .int .i64 a, .int .i64 e, .int .i64 f] : Array Value)[i]? = some sv ∨ (∃ x, (#[sv, .int .i64 a, .int .i64 e, .int .i64 f] : Array Value)[i]? = some (.int .i64 x)) ∨ (#[sv, .int .i64 a, .int .i64 e, .int .i64 f] : Array Value)[i]? = none := by
  match i with
  | 0 => exact .inl rfl
  | 1 => exact .inr (.inl ⟨_, rfl⟩)
  | 2 => exact .inr (.inl ⟨_, rfl⟩)
  | 3 => exact .inr (.inl ⟨_, rfl⟩)
  | i + 4 => exact .inr (.inr (by simp))
theorem Items.cur {A B : World} {sv : Option Addr} {is : List IV} {c : Nat} {b : Option Addr} {m d : Nat} {t x y : Int} (I : Items A sv is) (C : Cur A c (.slice b m d) t x y) (S : Spared (fun k => k = c) A B) : Items B sv is := by
  refine ⟨fun j v hv => ?_, fun j v hv => (I.held j v hv).keep S (fun hz g o e hk => (I.held j v hv).off C (cur_noOct _ (fun _ _ e => by cases e) _ _ _) hz g o e hk), I.fits⟩
  obtain ⟨g, o, e, hg, c0, c1, c2, c3⟩ := I.cells j v hv
  have hgc : ¬ g = c := by
    rintro rfl
    rw [cell_of_heap C.what] at c0
    rcases cur_kinds (.slice b m d) t x y (o + j * 4) with h | ⟨z, h⟩ | h <;> · rw [h] at c0; simp at c0
  have hb := S.same g hg hgc
  exact ⟨g, o, e, Nat.lt_of_lt_of_le hg S.size, (World.cell?_of_block (a := ⟨g, _, none⟩) hb).trans c0, (World.cell?_of_block (a := ⟨g, _, none⟩) hb).trans c1, (World.cell?_of_block (a := ⟨g, _, none⟩) hb).trans c2, (World.cell?_of_block (a := ⟨g, _, none⟩) hb).trans c3⟩
set_option maxRecDepth 100000 in
set_option maxHeartbeats 16000000 in
theorem otakes_any {lo r c n cap : Nat} {a : Option Addr} {zs : List Int} {s : RS} {sv : Option Addr} {L cp : Nat} {is : List IV} {w : World} (P : PR lo w r c a n cap zs s) (I : Items w sv is) (hL : is.length = L) (h40 : L ≤ 40) :
    Calls Try.prog 32 #[.pointer (some ⟨r, 0, none⟩), .slice sv L cp] w fun e w' => e = .returned (.bool ((is.foldl (tf zs) (true, s)).1 && !decide ((endR zs (is.foldl (tf zs) (true, s)).2).1 = 7))) ∧ PR lo w' r c a n cap zs (is.foldl (tf zs) (true, s)).2 ∧ Spared (fun k => k = c) w w' := by
  have HP0 := hide P
  have HI : Hid (∀ V, Spared (fun k => k = c) w V → Items V sv is) := fun V hV => I.cur P.cur hV
  have HL := hide hL
  have H40 := hide h40
  have hfe := run_fault_err
  have HFE := hide hfe
  clear P I hL h40 hfe
  go_enter Try.func32, Try.ntmps32
  go_wp2_with fail
  go_loopw [5, 6] (fun u i wr => ∃ (j : Nat) (B : Bool) (s1 : RS), j ≤ L ∧ i = .int .i64 j ∧ u = .bool B ∧ Hid ((is.take j).foldl (tf zs) (true, s) = (B, s1)) ∧ Hid (PR lo wr r c a n cap zs s1) ∧ Hid (Spared (fun k => k = c) w wr)) (fun _ i _ => 40 - (intOf i).toNat)
  case atStart => exact ⟨0, true, s, Nat.zero_le _, rfl, rfl, rfl, HP0, Spared.refl _ _⟩
  case round =>
    clear HP0
    obtain ⟨j, B, s1, hj, rfl, rfl, HT, HP, HS⟩ := hrel
    by_cases hjL : j < L
    · have hji : (j : Int) < (L : Int) := by omega
      have hj40 : j < 40 := by have := H40.out; omega
      have hjl : j < is.length := by rw [HL.out]; exact hjL
      have hX : is[j]? = some is[j] := List.getElem?_eq_getElem hjl
      obtain ⟨v, hv⟩ : ∃ v, is[j] = v := ⟨_, rfl⟩
      rw [hv] at hX
      obtain ⟨g, o, rfl, hg, c0, c1, c2, c3⟩ := (HI.out wr HS.out).cells j v hX
      have HN := hide (fold_next (tf zs) (true, s) hX)
      obtain ⟨raws, k, x, vb, vd, ys⟩ := v
      dsimp only at c0 c1 c2 c3
      have HIJ : Hid (∀ V, Spared (fun k => k = c) w V → (V.cell? ⟨g, o + j * 4 + 1, none⟩ = some (.int .i64 k) ∧ V.cell? ⟨g, o + j * 4 + 2, none⟩ = some (.int .i64 x) ∧ V.cell? ⟨g, o + j * 4 + 3, none⟩ = some (.slice vb ys.length vd)) ∧ Byt 0 V (.slice vb ys.length vd) ys) := fun V hV => by
        obtain ⟨g', o', e, _, _, d1, d2, d3⟩ := (HI.out V hV).cells j _ hX
        simp only [Option.some.injEq, Addr.mk.injEq] at e
        obtain ⟨rfl, rfl, _⟩ := e
        exact ⟨⟨d1, d2, d3⟩, (HI.out V hV).held j _ hX⟩
      have HJ := hide hj40
      have HJL := hide hjL
      have SV : Spared (fun k => k = c) w wr.drew := HS.out.drew
      have hS := (HIJ.out _ SV).1
      have PV : PR lo wr.drew r c a n cap zs s1 := HP.out.below ((Below.refl _ wr).drew)
      have t0 : Hid True := trivial
      clear hv hX hg hjL hjl hj HP HS
      cases raws with
      | true =>
        obtain ⟨D, hD⟩ : ∃ D, decide ((rawR zs s1 (ys.length : Nat)).1 = ys) = D := ⟨_, rfl⟩
        have HD := hide hD
        have HTN : Hid ((is.take (j + 1)).foldl (tf zs) (true, s) = (D && B, (rawR zs s1 (ys.length : Nat)).2)) := by
          have := HN.out
          rw [HT.out, tf_raws hD] at this
          exact this
        clear hD HN HT
        cases D with
        | true =>
          go_wp2_with fail
          go_region_held3 (fun V : World => V.cell? ⟨g, o + j * 4 + 1, none⟩ = some (.int .i64 k) ∧ V.cell? ⟨g, o + j * 4 + 2, none⟩ = some (.int .i64 x) ∧ V.cell? ⟨g, o + j * 4 + 3, none⟩ = some (.slice vb ys.length vd)) (exact hS)
            (first
            | (clear t0
               go_at_call 21
               refine (orraw_any PV).mono ?_
               rintro e v1 ⟨b1, m1, d1, rfl, Y1, P1, S1⟩
               have SV1 := SV.next S1 (fun _ _ h => h)
               replace hS := (HIJ.out _ SV1).1
               clear PV SV S1
               have t1 : Hid True := trivial)
            | (clear t1
               go_at_call 15
               refine (sameb_any Y1 (HIJ.out _ SV1).2).mono ?_
               rintro e v2 ⟨he, b2⟩
               rw [HD.out] at he
               subst he
               have P2 := P1.below b2
               have SV2 := SV1.behind b2
               replace hS := (HIJ.out _ SV2).1
               clear Y1 P1 SV1 b2
               have t2 : Hid True := trivial))
          all_goals
            have HP2 := hide P2
            have HS2 := hide SV2
            clear P2 SV2 hS t2 c0 c1 c2 c3
            go_wp2
            exact ⟨⟨j + 1, _, _, Nat.succ_le_of_lt HJL.out, by go_num, rfl, HTN, HP2, HS2⟩, by have := HJ.out; simp [intOf]; omega⟩
        | false =>
          go_wp2_with fail
          refine wp_region_held_drew (S := fun V : World => V.cell? ⟨g, o + j * 4 + 1, none⟩ = some (.int .i64 k) ∧ V.cell? ⟨g, o + j * 4 + 2, none⟩ = some (.int .i64 x) ∧ V.cell? ⟨g, o + j * 4 + 3, none⟩ = some (.slice vb ys.length vd)) (by kernel_rfl) hS (fun hHeld => ?_)
          refine wpAnyH_take (i := 0) (v := ?_) rfl (by kernel_rfl) (by kernel_rfl) (by kernel_rfl) (fun _ _ _ h => h) (Or.inl ⟨by rfl, ?_⟩) (by assumption) ?_
          rotate_left
          · intro w hSw
            try dsimp only at hSw
            go_simp
            try with_reducible rfl
          simp only [Act.put, List.setIfInBounds_toArray, List.set_cons_zero, List.set_cons_succ, List.getElem_toArray, List.getElem_cons_zero]
          refine wpAnyH_take (i := 1) (v := ?_) rfl (by kernel_rfl) (by kernel_rfl) (by kernel_rfl) (fun _ _ _ h => h) (Or.inl ⟨by rfl, ?_⟩) (by assumption) ?_
          rotate_left
          · intro w hSw
            try dsimp only at hSw
            go_simp
            try with_reducible rfl
          simp only [Act.put, List.setIfInBounds_toArray, List.set_cons_zero, List.set_cons_succ, List.getElem_toArray, List.getElem_cons_zero, List.getElem_cons_succ]
          refine wpAnyH_take (i := 2) (v := ?_) rfl (by kernel_rfl) (by kernel_rfl) (by kernel_rfl) (fun _ _ _ h => h) (Or.inl ⟨by rfl, ?_⟩) (by assumption) ?_
          rotate_left
          · intro w hSw
            try dsimp only at hSw
            go_simp
            try with_reducible rfl
          simp only [Act.put, List.setIfInBounds_toArray, List.set_cons_zero, List.set_cons_succ, List.getElem_toArray, List.getElem_cons_zero, List.getElem_cons_succ]
          refine wpAnyH_take (i := 3) (v := ?_) rfl (by kernel_rfl) (by kernel_rfl) (by kernel_rfl) (fun _ _ _ h => h) (Or.inl ⟨by rfl, ?_⟩) (by assumption) ?_
          rotate_left
          · intro w hSw
            try dsimp only at hSw
            go_simp
            try with_reducible rfl
          simp only [Act.put, List.setIfInBounds_toArray, List.set_cons_zero, List.set_cons_succ, List.getElem_toArray, List.getElem_cons_zero, List.getElem_cons_succ]
          refine wpAnyH_take (i := 4) (v := ?_) rfl (by kernel_rfl) (by kernel_rfl) (by kernel_rfl) (fun _ _ _ h => h) (Or.inl ⟨by rfl, ?_⟩) (by assumption) ?_
          rotate_left
          · intro w hSw
            try dsimp only at hSw
            go_simp
            try with_reducible rfl
          simp only [Act.put, List.setIfInBounds_toArray, List.set_cons_zero, List.set_cons_succ, List.getElem_toArray, List.getElem_cons_zero, List.getElem_cons_succ]
          refine wpAnyH_take (i := 5) (v := ?_) rfl (by kernel_rfl) (by kernel_rfl) (by kernel_rfl) (fun _ _ _ h => h) (Or.inl ⟨by rfl, ?_⟩) (by assumption) ?_
          rotate_left
          · intro w hSw
            try dsimp only at hSw
            go_simp
            try with_reducible rfl
          simp only [Act.put, List.setIfInBounds_toArray, List.set_cons_zero, List.set_cons_succ, List.getElem_toArray, List.getElem_cons_zero, List.getElem_cons_succ]
          refine wpAnyH_take (i := 6) (v := ?_) rfl (by kernel_rfl) (by kernel_rfl) (by kernel_rfl) (fun _ _ _ h => h) (Or.inl ⟨by rfl, ?_⟩) (by assumption) ?_
          rotate_left
          · intro w hSw
            try dsimp only at hSw
            go_simp
            try with_reducible rfl
          simp only [Act.put, List.setIfInBounds_toArray, List.set_cons_zero, List.set_cons_succ, List.getElem_toArray, List.getElem_cons_zero, List.getElem_cons_succ]
          refine wpAnyH_take (i := 8) (v := ?_) rfl (by kernel_rfl) (by kernel_rfl) (by kernel_rfl) (fun _ _ _ h => h) (Or.inl ⟨by rfl, ?_⟩) (by assumption) ?_
          rotate_left
          · intro w hSw
            try dsimp only at hSw
            go_simp
            try with_reducible rfl
          simp only [Act.put, List.setIfInBounds_toArray, List.set_cons_zero, List.set_cons_succ, List.getElem_toArray, List.getElem_cons_zero, List.getElem_cons_succ]
          refine wpAnyH_take (i := 9) (v := ?_) rfl (by kernel_rfl) (by kernel_rfl) (by kernel_rfl) (fun _ _ _ h => h) (Or.inl ⟨by rfl, ?_⟩) (by assumption) ?_
          rotate_left
          · intro w hSw
            try dsimp only at hSw
            go_simp
            try with_reducible rfl
          simp only [Act.put, List.setIfInBounds_toArray, List.set_cons_zero, List.set_cons_succ, List.getElem_toArray, List.getElem_cons_zero, List.getElem_cons_succ]
          refine wpAnyH_take (i := 10) (v := ?_) rfl (by kernel_rfl) (by kernel_rfl) (by kernel_rfl) (fun _ _ _ h => h) (Or.inl ⟨by rfl, ?_⟩) (by assumption) ?_
          rotate_left
          · intro w hSw
            try dsimp only at hSw
            go_simp
            try with_reducible rfl
          simp only [Act.put, List.setIfInBounds_toArray, List.set_cons_zero, List.set_cons_succ, List.getElem_toArray, List.getElem_cons_zero, List.getElem_cons_succ]
          refine wpAnyH_take (i := 11) (v := ?_) rfl (by kernel_rfl) (by kernel_rfl) (by kernel_rfl) (fun _ _ _ h => h) (Or.inl ⟨by rfl, ?_⟩) (by assumption) ?_
          rotate_left
          · intro w hSw
            try dsimp only at hSw
            go_simp
            try with_reducible rfl
          simp only [Act.put, List.setIfInBounds_toArray, List.set_cons_zero, List.set_cons_succ, List.getElem_toArray, List.getElem_cons_zero, List.getElem_cons_succ]
          refine wpAnyH_take (i := 12) (v := ?_) rfl (by kernel_rfl) (by kernel_rfl) (by kernel_rfl) (fun _ _ _ h => h) (Or.inl ⟨by rfl, ?_⟩) (by assumption) ?_
          rotate_left
          · intro w hSw
            try dsimp only at hSw
            go_simp
            try with_reducible rfl
          simp only [Act.put, List.setIfInBounds_toArray, List.set_cons_zero, List.set_cons_succ, List.getElem_toArray, List.getElem_cons_zero, List.getElem_cons_succ]
          refine wpAnyH_ready (rs := [7]) (by kernel_rfl) (by simp) ?_
          refine AllReadyH.cons rfl (fun K hK => ?_) AllReadyH.nil
          go_simp
          clear t0
          go_at_call 21
          refine (orraw_any PV).mono ?_
          rintro e v1 ⟨b1, m1, d1, rfl, Y1, P1, S1⟩
          dsimp only
          have SV1 := SV.next S1 (fun _ _ h => h)
          replace hS := (HIJ.out _ SV1).1
          clear PV SV S1
          clear hHeld
          refine hK.out _ _ (by exact hS) (fun hHeld => ?_)
          clear hK K
          try simp only [Act.put, List.setIfInBounds_toArray, List.set_cons_zero, List.set_cons_succ, List.getElem_toArray, List.getElem_cons_zero, List.getElem_cons_succ]
          refine wpAnyH_ready (rs := [13]) (by kernel_rfl) (by simp) ?_
          refine AllReadyH.cons rfl (fun K hK => ?_) AllReadyH.nil
          go_simp
          go_at_call 15
          refine (sameb_any Y1 (HIJ.out _ SV1).2).mono ?_
          rintro e v2 ⟨he, b2⟩
          rw [HD.out] at he
          subst he
          dsimp only
          have P2 := P1.below b2
          have SV2 := SV1.behind b2
          replace hS := (HIJ.out _ SV2).1
          clear Y1 P1 SV1 b2
          clear hHeld
          refine hK.out _ _ (by exact hS) (fun hHeld => ?_)
          clear hK K
          try simp only [Act.put, List.setIfInBounds_toArray, List.set_cons_zero, List.set_cons_succ, List.getElem_toArray, List.getElem_cons_zero, List.getElem_cons_succ]
          refine wpAnyH_take (i := 14) (v := ?_) rfl (by kernel_rfl) (by kernel_rfl) (by kernel_rfl) (fun _ _ _ h => h) (Or.inl ⟨by rfl, ?_⟩) (by assumption) ?_
          rotate_left
          · intro w hSw
            try dsimp only at hSw
            go_simp
            try with_reducible rfl
          simp only [Act.put, List.setIfInBounds_toArray, List.set_cons_zero, List.set_cons_succ, List.getElem_toArray, List.getElem_cons_zero, List.getElem_cons_succ]
          refine wpAnyH_take (i := 15) (v := undef) rfl (by kernel_rfl) (by kernel_rfl) (by kernel_rfl) (fun _ _ _ h => h) (Or.inr ⟨by rfl, rfl⟩) (by assumption) ?_
          simp only [Act.put, List.setIfInBounds_toArray, List.set_cons_zero, List.set_cons_succ, List.getElem_toArray, List.getElem_cons_zero, List.getElem_cons_succ]
          refine wpAnyH_take (i := 16) (v := ?_) rfl (by kernel_rfl) (by kernel_rfl) (by kernel_rfl) (fun _ _ _ h => h) (Or.inl ⟨by rfl, ?_⟩) (by assumption) ?_
          rotate_left
          · intro w hSw
            try dsimp only at hSw
            go_simp
            try with_reducible rfl
          simp only [Act.put, List.setIfInBounds_toArray, List.set_cons_zero, List.set_cons_succ, List.getElem_toArray, List.getElem_cons_zero, List.getElem_cons_succ]
          refine wpAnyH_take (i := 17) (v := ?_) rfl (by kernel_rfl) (by kernel_rfl) (by kernel_rfl) (fun _ _ _ h => h) (Or.inl ⟨by rfl, ?_⟩) (by assumption) ?_
          rotate_left
          · intro w hSw
            try dsimp only at hSw
            go_simp
            try with_reducible rfl
          simp only [Act.put, List.setIfInBounds_toArray, List.set_cons_zero, List.set_cons_succ, List.getElem_toArray, List.getElem_cons_zero, List.getElem_cons_succ]
          refine wpAnyH_done (by kernel_rfl) ?_ _
          clear hHeld
          have HP2 := hide P2
          have HS2 := hide SV2
          clear P2 SV2 hS c0 c1 c2 c3
          go_wp2
          exact ⟨⟨j + 1, _, _, Nat.succ_le_of_lt HJL.out, by go_num, rfl, HTN, HP2, HS2⟩, by have := HJ.out; simp [intOf]; omega⟩
      | false =>
        obtain ⟨⟨m, s2⟩, hG⟩ : ∃ X, getR zs s1 k = X := ⟨_, rfl⟩
        have HG := hide hG
        by_cases hm : (m : Int) = x
        · subst hm
          have HTN : Hid ((is.take (j + 1)).foldl (tf zs) (true, s) = (true && B, s2)) := by
            have := HN.out
            rw [HT.out, tf_nums (D := true) (by rw [hG]; exact decide_eq_true rfl), hG] at this
            exact this
          clear hG HN HT
          go_wp2_with fail
          go_region_held3 (fun V : World => V.cell? ⟨g, o + j * 4 + 1, none⟩ = some (.int .i64 k) ∧ V.cell? ⟨g, o + j * 4 + 2, none⟩ = some (.int .i64 (m : Nat)) ∧ V.cell? ⟨g, o + j * 4 + 3, none⟩ = some (.slice vb ys.length vd)) (exact hS)
            (first
            | (clear t0
               go_at_call 23
               refine (orget_any PV).mono ?_
               rintro e v1 ⟨he, P1, S1⟩
               rw [HG.out] at he P1
               subst he
               have SV1 := SV.next S1 (fun _ _ h => h)
               replace hS := (HIJ.out _ SV1).1
               clear PV SV S1
               have t1 : Hid True := trivial))
          all_goals
            have HP2 := hide P1
            have HS2 := hide SV1
            clear P1 SV1 hS t1 c0 c1 c2 c3
            go_wp2
            exact ⟨⟨j + 1, _, _, Nat.succ_le_of_lt HJL.out, by go_num, rfl, HTN, HP2, HS2⟩, by have := HJ.out; simp [intOf]; omega⟩
        · have HTN : Hid ((is.take (j + 1)).foldl (tf zs) (true, s) = (false && B, s2)) := by
            have := HN.out
            rw [HT.out, tf_nums (D := false) (by rw [hG]; exact decide_eq_false hm), hG] at this
            exact this
          have hmq : ((m : Int) == x) = false := beq_eq_false_iff_ne.2 hm
          clear hG HN HT
          go_wp2_with fail
          refine wp_region_held_drew (S := fun V : World => V.cell? ⟨g, o + j * 4 + 1, none⟩ = some (.int .i64 k) ∧ V.cell? ⟨g, o + j * 4 + 2, none⟩ = some (.int .i64 x) ∧ V.cell? ⟨g, o + j * 4 + 3, none⟩ = some (.slice vb ys.length vd)) (by kernel_rfl) hS (fun hHeld => ?_)
          refine wpAnyH_take (i := 0) (v := ?_) rfl (by kernel_rfl) (by kernel_rfl) (by kernel_rfl) (fun _ _ _ h => h) (Or.inl ⟨by rfl, ?_⟩) (by assumption) ?_
          rotate_left
          · intro w hSw
            try dsimp only at hSw
            go_simp
            try with_reducible rfl
          simp only [Act.put, List.setIfInBounds_toArray, List.set_cons_zero, List.set_cons_succ, List.getElem_toArray, List.getElem_cons_zero]
          refine wpAnyH_take (i := 1) (v := ?_) rfl (by kernel_rfl) (by kernel_rfl) (by kernel_rfl) (fun _ _ _ h => h) (Or.inl ⟨by rfl, ?_⟩) (by assumption) ?_
          rotate_left
          · intro w hSw
            try dsimp only at hSw
            go_simp
            try with_reducible rfl
          simp only [Act.put, List.setIfInBounds_toArray, List.set_cons_zero, List.set_cons_succ, List.getElem_toArray, List.getElem_cons_zero, List.getElem_cons_succ]
          refine wpAnyH_take (i := 2) (v := ?_) rfl (by kernel_rfl) (by kernel_rfl) (by kernel_rfl) (fun _ _ _ h => h) (Or.inl ⟨by rfl, ?_⟩) (by assumption) ?_
          rotate_left
          · intro w hSw
            try dsimp only at hSw
            go_simp
            try with_reducible rfl
          simp only [Act.put, List.setIfInBounds_toArray, List.set_cons_zero, List.set_cons_succ, List.getElem_toArray, List.getElem_cons_zero, List.getElem_cons_succ]
          refine wpAnyH_take (i := 3) (v := ?_) rfl (by kernel_rfl) (by kernel_rfl) (by kernel_rfl) (fun _ _ _ h => h) (Or.inl ⟨by rfl, ?_⟩) (by assumption) ?_
          rotate_left
          · intro w hSw
            try dsimp only at hSw
            go_simp
            try with_reducible rfl
          simp only [Act.put, List.setIfInBounds_toArray, List.set_cons_zero, List.set_cons_succ, List.getElem_toArray, List.getElem_cons_zero, List.getElem_cons_succ]
          refine wpAnyH_take (i := 4) (v := ?_) rfl (by kernel_rfl) (by kernel_rfl) (by kernel_rfl) (fun _ _ _ h => h) (Or.inl ⟨by rfl, ?_⟩) (by assumption) ?_
          rotate_left
          · intro w hSw
            try dsimp only at hSw
            go_simp
            try with_reducible rfl
          simp only [Act.put, List.setIfInBounds_toArray, List.set_cons_zero, List.set_cons_succ, List.getElem_toArray, List.getElem_cons_zero, List.getElem_cons_succ]
          refine wpAnyH_take (i := 5) (v := ?_) rfl (by kernel_rfl) (by kernel_rfl) (by kernel_rfl) (fun _ _ _ h => h) (Or.inl ⟨by rfl, ?_⟩) (by assumption) ?_
          rotate_left
          · intro w hSw
            try dsimp only at hSw
            go_simp
            try with_reducible rfl
          simp only [Act.put, List.setIfInBounds_toArray, List.set_cons_zero, List.set_cons_succ, List.getElem_toArray, List.getElem_cons_zero, List.getElem_cons_succ]
          refine wpAnyH_take (i := 7) (v := ?_) rfl (by kernel_rfl) (by kernel_rfl) (by kernel_rfl) (fun _ _ _ h => h) (Or.inl ⟨by rfl, ?_⟩) (by assumption) ?_
          rotate_left
          · intro w hSw
            try dsimp only at hSw
            go_simp
            try with_reducible rfl
          simp only [Act.put, List.setIfInBounds_toArray, List.set_cons_zero, List.set_cons_succ, List.getElem_toArray, List.getElem_cons_zero, List.getElem_cons_succ]
          refine wpAnyH_take (i := 8) (v := ?_) rfl (by kernel_rfl) (by kernel_rfl) (by kernel_rfl) (fun _ _ _ h => h) (Or.inl ⟨by rfl, ?_⟩) (by assumption) ?_
          rotate_left
          · intro w hSw
            try dsimp only at hSw
            go_simp
            try with_reducible rfl
          simp only [Act.put, List.setIfInBounds_toArray, List.set_cons_zero, List.set_cons_succ, List.getElem_toArray, List.getElem_cons_zero, List.getElem_cons_succ]
          refine wpAnyH_take (i := 9) (v := ?_) rfl (by kernel_rfl) (by kernel_rfl) (by kernel_rfl) (fun _ _ _ h => h) (Or.inl ⟨by rfl, ?_⟩) (by assumption) ?_
          rotate_left
          · intro w hSw
            try dsimp only at hSw
            go_simp
            try with_reducible rfl
          simp only [Act.put, List.setIfInBounds_toArray, List.set_cons_zero, List.set_cons_succ, List.getElem_toArray, List.getElem_cons_zero, List.getElem_cons_succ]
          refine wpAnyH_take (i := 10) (v := ?_) rfl (by kernel_rfl) (by kernel_rfl) (by kernel_rfl) (fun _ _ _ h => h) (Or.inl ⟨by rfl, ?_⟩) (by assumption) ?_
          rotate_left
          · intro w hSw
            try dsimp only at hSw
            go_simp
            try with_reducible rfl
          simp only [Act.put, List.setIfInBounds_toArray, List.set_cons_zero, List.set_cons_succ, List.getElem_toArray, List.getElem_cons_zero, List.getElem_cons_succ]
          refine wpAnyH_take (i := 11) (v := ?_) rfl (by kernel_rfl) (by kernel_rfl) (by kernel_rfl) (fun _ _ _ h => h) (Or.inl ⟨by rfl, ?_⟩) (by assumption) ?_
          rotate_left
          · intro w hSw
            try dsimp only at hSw
            go_simp
            try with_reducible rfl
          simp only [Act.put, List.setIfInBounds_toArray, List.set_cons_zero, List.set_cons_succ, List.getElem_toArray, List.getElem_cons_zero, List.getElem_cons_succ]
          refine wpAnyH_ready (rs := [6]) (by kernel_rfl) (by simp) ?_
          refine AllReadyH.cons rfl (fun K hK => ?_) AllReadyH.nil
          go_simp
          clear t0
          go_at_call 23
          refine (orget_any PV).mono ?_
          rintro e v1 ⟨he, P1, S1⟩
          rw [HG.out] at he P1
          subst he
          dsimp only
          have SV1 := SV.next S1 (fun _ _ h => h)
          replace hS := (HIJ.out _ SV1).1
          clear PV SV S1
          clear hHeld
          refine hK.out _ _ (by exact hS) (fun hHeld => ?_)
          clear hK K
          try simp only [Act.put, List.setIfInBounds_toArray, List.set_cons_zero, List.set_cons_succ, List.getElem_toArray, List.getElem_cons_zero, List.getElem_cons_succ]
          refine wpAnyH_take (i := 12) (v := ?_) rfl (by kernel_rfl) (by kernel_rfl) (by kernel_rfl) (fun _ _ _ h => h) (Or.inl ⟨by rfl, ?_⟩) (by assumption) ?_
          rotate_left
          · intro w hSw
            try dsimp only at hSw
            go_simp
            try with_reducible rfl
          simp only [Act.put, List.setIfInBounds_toArray, List.set_cons_zero, List.set_cons_succ, List.getElem_toArray, List.getElem_cons_zero, List.getElem_cons_succ]
          refine wpAnyH_take (i := 13) (v := ?_) rfl (by kernel_rfl) (by kernel_rfl) (by kernel_rfl) (fun _ _ _ h => h) (Or.inl ⟨by rfl, ?_⟩) (by assumption) ?_
          rotate_left
          · intro w hSw
            try dsimp only at hSw
            go_simp
            try with_reducible rfl
          simp only [Act.put, List.setIfInBounds_toArray, List.set_cons_zero, List.set_cons_succ, List.getElem_toArray, List.getElem_cons_zero, List.getElem_cons_succ]
          refine wpAnyH_take (i := 14) (v := undef) rfl (by kernel_rfl) (by kernel_rfl) (by kernel_rfl) (fun _ _ _ h => h) (Or.inr ⟨by rfl, rfl⟩) (by assumption) ?_
          simp only [Act.put, List.setIfInBounds_toArray, List.set_cons_zero, List.set_cons_succ, List.getElem_toArray, List.getElem_cons_zero, List.getElem_cons_succ]
          refine wpAnyH_take (i := 15) (v := ?_) rfl (by kernel_rfl) (by kernel_rfl) (by kernel_rfl) (fun _ _ _ h => h) (Or.inl ⟨by rfl, ?_⟩) (by assumption) ?_
          rotate_left
          · intro w hSw
            try dsimp only at hSw
            go_simp
            try with_reducible rfl
          simp only [Act.put, List.setIfInBounds_toArray, List.set_cons_zero, List.set_cons_succ, List.getElem_toArray, List.getElem_cons_zero, List.getElem_cons_succ]
          refine wpAnyH_take (i := 16) (v := ?_) rfl (by kernel_rfl) (by kernel_rfl) (by kernel_rfl) (fun _ _ _ h => h) (Or.inl ⟨by rfl, ?_⟩) (by assumption) ?_
          rotate_left
          · intro w hSw
            try dsimp only at hSw
            go_simp
            try with_reducible rfl
          simp only [Act.put, List.setIfInBounds_toArray, List.set_cons_zero, List.set_cons_succ, List.getElem_toArray, List.getElem_cons_zero, List.getElem_cons_succ]
          refine wpAnyH_done (by kernel_rfl) ?_ _
          clear hHeld
          have HP2 := hide P1
          have HS2 := hide SV1
          clear P1 SV1 hS c0 c1 c2 c3
          go_wp2
          exact ⟨⟨j + 1, _, _, Nat.succ_le_of_lt HJL.out, by go_num, rfl, HTN, HP2, HS2⟩, by have := HJ.out; simp [intOf]; omega⟩
    · have hji : ¬ (j : Int) < (L : Int) := by omega
      have hall : is.foldl (tf zs) (true, s) = (B, s1) := by
        have h := HT.out
        rw [List.take_of_length_le (by rw [HL.out]; omega)] at h
        exact h
      have HALL := hide hall
      clear hall HT hjL hj
      cases B with
      | false =>
        go_wp2
        go_ret
        exact ⟨by rw [HALL.out]; rfl, by rw [HALL.out]; exact HP.out, HS.out⟩
      | true =>
        have he := oend_any HP.out
        obtain ⟨⟨er, fa⟩, hX⟩ : ∃ X, endR zs s1 = X := ⟨_, rfl⟩
        rw [hX] at he
        have HX := hide hX
        have hfe := HFE.out
        clear hX
        go_wp2_with fail
        refine he.mono ?_
        rintro e v1 ⟨rfl, b1⟩
        have HP1 := hide (HP.out.below b1)
        have HS1 := hide (HS.out.behind b1)
        clear he b1 HP HS
        by_cases h7 : er = 7
        · subst h7
          go_wp2
          go_ret
          exact ⟨by rw [HALL.out]; dsimp only; rw [HX.out]; rfl, by rw [HALL.out]; exact HP1.out, HS1.out⟩
        · go_wp2
          go_ret
          exact ⟨by rw [HALL.out]; dsimp only; rw [HX.out]; simp [h7], by rw [HALL.out]; exact HP1.out, HS1.out⟩
def IV.bs (v : IV) : List Int := if v.raws then v.zs else be v.k.toNat v.x.toNat
def IV.Good (v : IV) : Prop := v.raws = false → IsW v.k ∧ Fits v.k v.x
def flat (is : List IV) : List Int := is.flatMap IV.bs
theorem flat_snoc (is : List IV) (v : IV) : flat (is ++ [v]) = flat is ++ v.bs := by simp [flat]
theorem rawW_good {most : Nat} {s : List Int × Int} {ys : List Int} (h0 : s.2 = 0) (h : (rawW most s ys).2 = 0) : rawW most s ys = (s.1 ++ ys, 0) := by
  unfold rawW at h ⊢
  rw [if_pos h0] at h ⊢
  by_cases hl : most < s.1.length + ys.length
  · rw [if_pos hl] at h
    exact absurd (show (4 : Int) = 0 from h) (by decide)
  · rw [if_neg hl]
theorem putW_good {most : Nat} {s : List Int × Int} {k x : Int} (h0 : s.2 = 0) (h : (putW most s k x).2 = 0) : (IsW k ∧ Fits k x) ∧ putW most s k x = (s.1 ++ be k.toNat x.toNat, 0) := by
  unfold putW at h ⊢
  rw [if_pos h0] at h ⊢
  by_cases hk : IsW k
  · rw [if_pos hk] at h ⊢
    by_cases hx : Fits k x
    · rw [if_pos hx] at h ⊢
      exact ⟨⟨hk, hx⟩, rawW_good h0 h⟩
    · rw [if_neg hx] at h
      exact absurd (show (3 : Int) = 0 from h) (by decide)
  · rw [if_neg hk] at h
    exact absurd (show (2 : Int) = 0 from h) (by decide)
theorem isw_nat {k : Int} (h : IsW k) : ∃ K : Nat, k = K ∧ 0 < K ∧ K ≤ 8 := by
  rcases h with h | h | h | h
  · exact ⟨1, h, by omega, by omega⟩
  · exact ⟨2, h, by omega, by omega⟩
  · exact ⟨4, h, by omega, by omega⟩
  · exact ⟨8, h, by omega, by omega⟩
theorem tf_back {zs pre rest : List Int} {v : IV} (hz : zs = pre ++ (v.bs ++ rest)) (hg : v.Good) (hx : v.x ≤ 9223372036854775807) (B : Bool) : tf zs (B, ⟨pre.length, 0, 0⟩) v = (B, ⟨(pre ++ v.bs).length, 0, 0⟩) := by
  obtain ⟨raws, k, x, a, d, ys⟩ := v
  have hlen : zs.length = pre.length + (IV.bs ⟨raws, k, x, a, d, ys⟩).length + rest.length := by rw [hz]; simp; omega
  have htake : (zs.drop pre.length).take (IV.bs ⟨raws, k, x, a, d, ys⟩).length = IV.bs ⟨raws, k, x, a, d, ys⟩ := by rw [hz]; simp
  cases raws with
  | true =>
    have e : IV.bs ⟨true, k, x, a, d, ys⟩ = ys := if_pos rfl
    rw [e] at hlen htake
    have hr : rawR zs ⟨pre.length, 0, 0⟩ (ys.length : Nat) = (ys, ⟨pre.length + ys.length, 0, 0⟩) := by
      unfold rawR
      dsimp only
      rw [if_pos rfl, if_neg (by omega), if_neg (by omega), Int.toNat_natCast, htake]
    rw [tf_raws (D := true) (by rw [hr]; exact decide_eq_true rfl), hr, e, List.length_append]
    rfl
  | false =>
    obtain ⟨hk, h0, h1⟩ := hg rfl
    dsimp only at hk h0 h1 hx
    obtain ⟨K, rfl, hK0, hK8⟩ := isw_nat hk
    obtain ⟨X, rfl⟩ := Int.eq_ofNat_of_zero_le h0
    have e : IV.bs ⟨false, (K : Int), (X : Int), a, d, ys⟩ = be K X := by
      unfold IV.bs
      rw [if_neg (fun e => Bool.noConfusion e), Int.toNat_natCast, Int.toNat_natCast]
    rw [e] at hlen htake
    rw [be_length] at hlen htake
    have h2 : X < 256 ^ K := by
      have h3 : ((256 ^ K : Nat) : Int) = (256 : Int) ^ K := by rw [Int.natCast_pow]; rfl
      rw [Int.toNat_natCast, ← h3] at h1
      exact Int.ofNat_lt.1 h1
    have hr : getR zs ⟨pre.length, 0, 0⟩ (K : Int) = (X, ⟨pre.length + K, 0, 0⟩) := by
      unfold getR
      dsimp only
      rw [if_pos rfl, if_pos hk, if_neg (by omega), Int.toNat_natCast, htake, nb_be K X h2, if_pos (by omega)]
    rw [tf_nums (D := true) (by rw [hr]; exact decide_eq_true rfl), hr, e, List.length_append, be_length]
    rfl
theorem tf_fault (zs : List Int) (v : IV) (B : Bool) {s : RS} (h : ¬ s.er = 0) : (tf zs (B, s) v).2 = s := by
  obtain ⟨t, er, fa⟩ := s
  unfold tf
  split
  · rw [raw_fault zs t er fa _ h]
  · rw [get_fault zs t er fa _ h]
theorem fold_fault (zs : List Int) {s : RS} (h : ¬ s.er = 0) : ∀ (is : List IV) (B : Bool), (is.foldl (tf zs) (B, s)).2 = s := by
  intro is
  induction is with
  | nil => intro B; rfl
  | cons v is ih =>
    intro B
    rw [List.foldl_cons]
    obtain ⟨⟨C, u⟩, hu⟩ : ∃ q, tf zs (B, s) v = q := ⟨_, rfl⟩
    have := tf_fault zs v B h
    rw [hu] at this ⊢
    dsimp only at this
    subst this
    exact ih C
theorem fold_back {zs : List Int} : ∀ (is : List IV) (pre rest : List Int), zs = pre ++ (flat is ++ rest) → (∀ v ∈ is, v.Good ∧ v.x ≤ 9223372036854775807) → ∀ B, is.foldl (tf zs) (B, ⟨pre.length, 0, 0⟩) = (B, ⟨(pre ++ flat is).length, 0, 0⟩) := by
  intro is
  induction is with
  | nil => intro pre rest _ _ B; simp [flat]
  | cons v is ih =>
    intro pre rest hz hg B
    have hf : flat (v :: is) = v.bs ++ flat is := by simp [flat]
    rw [hf] at hz ⊢
    obtain ⟨hv, hx⟩ := hg v (List.mem_cons_self ..)
    rw [List.foldl_cons, tf_back (rest := flat is ++ rest) (by rw [hz]; simp) hv hx B, ih (pre ++ v.bs) rest (by rw [hz]; simp) (fun u hu => hg u (List.mem_cons_of_mem _ hu)) B, List.append_assoc]
theorem tf_short {zs pre part : List Int} {v : IV} (hz : zs = pre ++ part) (hl : part.length < v.bs.length) (hg : v.Good) (B : Bool) : (tf zs (B, ⟨pre.length, 0, 0⟩) v).2 = ⟨pre.length, 7, zs.length⟩ := by
  obtain ⟨raws, k, x, a, d, ys⟩ := v
  have hlen : zs.length = pre.length + part.length := by rw [hz, List.length_append]
  cases raws with
  | true =>
    have e : IV.bs ⟨true, k, x, a, d, ys⟩ = ys := if_pos rfl
    rw [e] at hl
    unfold tf rawR
    dsimp only
    rw [if_pos rfl, if_pos rfl, if_neg (by omega), if_pos (by omega)]
  | false =>
    obtain ⟨hk, h0, h1⟩ := hg rfl
    dsimp only at hk h0 h1
    obtain ⟨K, rfl, hK0, hK8⟩ := isw_nat hk
    have e : (IV.bs ⟨false, (K : Int), x, a, d, ys⟩).length = K := by
      unfold IV.bs
      rw [if_neg (fun e => Bool.noConfusion e), be_length, Int.toNat_natCast]
    rw [e] at hl
    unfold tf getR
    dsimp only
    rw [if_neg (fun e => Bool.noConfusion e), if_pos rfl, if_pos hk, if_pos (by omega)]
theorem fold_short {zs : List Int} : ∀ (is : List IV) (pre part more : List Int), zs = pre ++ part → flat is = part ++ more → more ≠ [] → (∀ v ∈ is, v.Good ∧ v.x ≤ 9223372036854775807) → ∀ B, ∃ t : Nat, (is.foldl (tf zs) (B, ⟨pre.length, 0, 0⟩)).2 = ⟨t, 7, zs.length⟩ := by
  intro is
  induction is with
  | nil =>
    intro pre part more _ hf hm _ B
    have := congrArg List.length hf
    simp [flat] at this
    exact absurd (List.length_eq_zero_iff.1 (show more.length = 0 by omega)) hm
  | cons v is ih =>
    intro pre part more hz hf hm hg B
    obtain ⟨hv, hx⟩ := hg v (List.mem_cons_self ..)
    have hfl : flat (v :: is) = v.bs ++ flat is := by simp [flat]
    rw [hfl] at hf
    rw [List.foldl_cons]
    by_cases hl : v.bs.length ≤ part.length
    · have h1 : part = v.bs ++ part.drop v.bs.length := by
        have h2 := congrArg (List.take v.bs.length) hf
        rw [List.take_left, List.take_append_of_le_length hl] at h2
        have h3 := List.take_append_drop v.bs.length part
        rw [← h2] at h3
        exact h3.symm
      have h4 : flat is = part.drop v.bs.length ++ more := by
        have h2 := congrArg (List.drop v.bs.length) hf
        rw [List.drop_left, List.drop_append_of_le_length hl] at h2
        exact h2
      rw [tf_back (rest := part.drop v.bs.length) (by rw [← h1]; exact hz) hv hx B]
      exact ih (pre ++ v.bs) (part.drop v.bs.length) more (by rw [List.append_assoc, ← h1]; exact hz) h4 hm (fun u hu => hg u (List.mem_cons_of_mem _ hu)) B
    · obtain ⟨⟨C, u⟩, hu⟩ : ∃ q, tf zs (B, ⟨pre.length, 0, 0⟩) v = q := ⟨_, rfl⟩
      have h1 := tf_short hz (by omega) hv B
      rw [hu] at h1 ⊢
      dsimp only at h1
      subst h1
      exact ⟨pre.length, fold_fault zs (by show ¬ (7 : Int) = 0; decide) is C⟩
theorem infoItem : ((Try.prog.info? 34).map fun i => (i.zero, i.size, i.bytes)) = some (some (.agg #[.bool false, .int .i64 0, .int .i64 0, .slice none 0 0]), 4, 48) := by kernel_rfl
def IV.cs (v : IV) : List Value := [.bool v.raws, .int .i64 v.k, .int .i64 v.x, .slice v.a v.zs.length v.c]
def OwnI (lo : Nat) (W : World) (v : Value) (is : List IV) : Prop := W.ownsRow lo 34 4 v is.length (is.flatMap IV.cs)
theorem owni_nil (lo : Nat) (W : World) : OwnI lo W (.slice none 0 0) [] := World.ownsRow_nil W lo _ _
theorem cs_at {v : IV} : ∀ (is : List IV) (j : Nat), is[j]? = some v → (is.flatMap IV.cs)[j * 4]? = some (.bool v.raws) ∧ (is.flatMap IV.cs)[j * 4 + 1]? = some (.int .i64 v.k) ∧ (is.flatMap IV.cs)[j * 4 + 2]? = some (.int .i64 v.x) ∧ (is.flatMap IV.cs)[j * 4 + 3]? = some (.slice v.a v.zs.length v.c) := by
  intro is
  induction is with
  | nil => intro j hj; simp at hj
  | cons u is ih =>
    intro j hj
    cases j with
    | zero =>
      simp only [List.getElem?_cons_zero, Option.some.injEq] at hj
      subst hj
      exact ⟨rfl, rfl, rfl, rfl⟩
    | succ j =>
      simp only [List.getElem?_cons_succ] at hj
      obtain ⟨h1, h2, h3, h4⟩ := ih j hj
      have e1 : (j + 1) * 4 = j * 4 + 1 + 1 + 1 + 1 := by omega
      rw [List.flatMap_cons, e1]
      exact ⟨h1, h2, h3, h4⟩
theorem owni_append {lo : Nat} {w : World} {v : Value} {is : List IV} (h : OwnI lo w v is) (r : IV) (hl : is.length ≤ 1000) (hlo : lo ≤ w.heap.size) :
    ∃ a' cap' w', (Builtin.append_ #[22, 22] 22 #[v, .slice (some ⟨w.heap.size, 0, none⟩) 1 1]).run Try.prog (w.alloc (.cells #[.bool r.raws, .int .i64 r.k, .int .i64 r.x, .slice r.a r.zs.length r.c] 34)) = .ok (.slice a' (is.length + 1) cap') w' ∧ OwnI lo w' (.slice a' (is.length + 1) cap') (is ++ [r]) ∧ (w.alloc (.cells #[.bool r.raws, .int .i64 r.k, .int .i64 r.x, .slice r.a r.zs.length r.c] 34)).grownBy w' v.ownBlock := by
  obtain ⟨i0, hi, hz0, hz1, hz2⟩ := info_parts infoItem
  obtain ⟨v', w', hr, hown, hg, _, hat⟩ := run_append_own_at (P := Try.prog) (w.alloc (.cells #[.bool r.raws, .int .i64 r.k, .int .i64 r.x, .slice r.a r.zs.length r.c] 34)) lo 22 22 34 i0 (.agg #[.bool false, .int .i64 0, .int .i64 0, .slice none 0 0]) 4 48 Try.underlying22 hi hz0 hz1 hz2 rfl (by decide)
    v is.length (is.flatMap IV.cs) (World.ownsRow.alloc h _) ⟨w.heap.size, 0, none⟩ 1 1 r.cs rfl
    (fun j u hj => by
      rw [Addr.add_lit]
      have := cell_of_heap (World.alloc_heap_new w (.cells #[.bool r.raws, .int .i64 r.k, .int .i64 r.x, .slice r.a r.zs.length r.c] 34)) j
      rw [Nat.zero_add, this]
      simpa [IV.cs] using hj)
    (fun u hu => by
      simp only [IV.cs, List.mem_cons, List.not_mem_nil, or_false] at hu
      rcases hu with rfl | rfl | rfl | rfl <;> rfl) (by unfold maxLen; omega) (by omega) (by simp; omega)
  have ho : OwnI lo w' v' (is ++ [r]) := by
    unfold OwnI
    rw [List.length_append, List.flatMap_append]
    simpa using hown
  have hv : ∃ a' cap', v' = .slice a' (is.length + 1) cap' := by
    obtain ⟨_, h2⟩ := hown
    rcases h2 with ⟨_, h0⟩ | ⟨g, cap, cur, e, _⟩
    · omega
    · exact ⟨_, _, e⟩
  obtain ⟨a', cap', rfl⟩ := hv
  exact ⟨a', cap', w', hr, ho, hg⟩
theorem OwnI.below {lo : Nat} {W W' : World} {v : Value} {is : List IV} (h : OwnI lo W v is) (hb : Below W.heap.size W W') : OwnI lo W' v is :=
  World.ownsRow.kept h (row := none) ⟨hb.os, hb.tape, hb.output, hb.size, fun k hk _ => hb.block k hk⟩ (by cases hv : v.ownBlock <;> simp)
theorem OwnI.spared {F : Nat → Prop} {lo : Nat} {A B : World} {v : Value} {is : List IV} (h : OwnI lo A v is) (hs : Spared F A B) (hF : ∀ k, v.ownBlock = some k → ¬ F k) : OwnI lo B v is := by
  obtain ⟨h1, h2⟩ := h
  refine ⟨h1, ?_⟩
  rcases h2 with ⟨e, h0⟩ | ⟨g, cap, cur, rfl, hg, hh, r⟩
  · exact .inl ⟨e, h0⟩
  · exact .inr ⟨g, cap, cur, rfl, hg, (hs.same g (Array.getElem?_eq_some_iff.1 hh).1 (hF g rfl)).trans hh, r⟩
theorem OwnI.apart {lo k g : Nat} {W : World} {v : Value} {is : List IV} {cs : Array Value} {t : TypeId} (h : OwnI lo W v is) (hb : Box W k (.cells cs t (0, 0))) (ht : t ≠ 34) (hg : v.ownBlock = some g) : g ≠ k := by
  rintro rfl
  obtain ⟨_, h2⟩ := h
  rcases h2 with ⟨rfl, _⟩ | ⟨g', cap, cur, rfl, _, hh, _⟩
  · cases hg
  · obtain rfl := Option.some.inj hg
    change W.heap[g']? = _ at hh
    rw [hb.what] at hh
    simp only [Option.some.injEq, Obj.cells.injEq] at hh
    exact ht hh.2.1
theorem OwnI.lt {lo g : Nat} {W : World} {v : Value} {is : List IV} (h : OwnI lo W v is) (hg : v.ownBlock = some g) : lo ≤ g ∧ g < W.heap.size := World.ownsRow.lt h g hg
theorem OwnI.bytes {lo lo' g : Nat} {W : World} {v u : Value} {is : List IV} {zs : List Int} (h : OwnI lo W v is) (o : OwnB lo' W u zs) (hg : v.ownBlock = some g) : ¬ u.ownBlock = some g := by
  intro hu
  obtain ⟨_, h2⟩ := h
  obtain ⟨⟨_, h3⟩, _⟩ := o
  rcases h2 with ⟨rfl, _⟩ | ⟨g1, c1, cur1, rfl, _, hh, _⟩
  · cases hg
  · obtain rfl := Option.some.inj hg
    rcases h3 with ⟨rfl, _⟩ | ⟨g2, c2, cur2, rfl, _, hh2, _⟩
    · cases hu
    · obtain rfl := Option.some.inj hu
      change _root_.Eq (W.heap[_]?) _ at hh hh2
      rw [hh] at hh2
      simp only [Option.some.injEq, Obj.cells.injEq] at hh2
      exact absurd hh2.2.1 (by decide)
theorem OwnI.items {lo : Nat} {W : World} {a : Option Addr} {n cap : Nat} {is : List IV} (h : OwnI lo W (.slice a n cap) is) (hb : ∀ v ∈ is, Byt 0 W (.slice v.a v.zs.length v.c) v.zs) (hf : ∀ v ∈ is, Fit64 v.k ∧ Fit64 v.x) : Items W a is := by
  refine ⟨fun j v hv => ?_, fun j v hv => hb v (List.mem_of_getElem? hv), fun j v hv => hf v (List.mem_of_getElem? hv)⟩
  obtain ⟨_, h2⟩ := h
  rcases h2 with ⟨_, h0⟩ | ⟨g, cap', cur, e, hg, hh, hc, hm, hs, ht⟩
  · obtain rfl : is = [] := List.length_eq_zero_iff.1 h0
    simp at hv
  · simp only [Value.slice.injEq] at e
    obtain ⟨rfl, _, _⟩ := e
    have hj := (List.getElem?_eq_some_iff.1 hv).1
    obtain ⟨h1, h2, h3, h4⟩ := cs_at is j hv
    have key : ∀ i, i < is.length * 4 → W.cell? ⟨g, 0 + i, none⟩ = (is.flatMap IV.cs)[i]? := fun i hi => by
      rw [cell_of_heap hh, Nat.zero_add, ← ht, List.getElem?_take_of_lt hi, Array.getElem?_toList]
    exact ⟨g, 0, rfl, (Array.getElem?_eq_some_iff.1 hh).1, (key _ (by omega)).trans h1, (key (j * 4 + 1) (by omega)).trans h2, (key (j * 4 + 2) (by omega)).trans h3, (key (j * 4 + 3) (by omega)).trans h4⟩
theorem Spared.of_grown {A B : World} {o : Obj} {row : Option Nat} (hg : (A.alloc o).grownBy B row) : Spared (fun k => row = some k) A B :=
  Spared.ahead (below_new A o) ⟨⟨hg.os, hg.tape, hg.output, hg.size, fun k hk => absurd hk (Nat.not_lt_zero k)⟩, fun k hk hf => hg.block k hk (fun e => hf e.symm)⟩
theorem bs_len {v : IV} (hg : v.Good) (hz : v.zs.length ≤ 100) : v.bs.length ≤ 100 := by
  unfold IV.bs
  cases h : v.raws with
  | true => exact hz
  | false =>
    obtain ⟨K, hK, _, h8⟩ := isw_nat (hg h).1
    rw [if_neg (fun e => Bool.noConfusion e), be_length, hK, Int.toNat_natCast]
    omega
theorem flat_le : ∀ (is : List IV), (∀ v ∈ is, v.Good ∧ v.zs.length ≤ 100) → (flat is).length ≤ is.length * 100 := by
  intro is
  induction is with
  | nil => intro _; exact Nat.zero_le _
  | cons v is ih =>
    intro h
    have h1 := ih (fun u hu => h u (List.mem_cons_of_mem _ hu))
    obtain ⟨g, z⟩ := h v (List.mem_cons_self ..)
    have h2 := bs_len g z
    have e : flat (v :: is) = v.bs ++ flat is := by simp [flat]
    rw [e, List.length_append, List.length_cons]
    omega
set_option maxRecDepth 100000 in
set_option maxHeartbeats 8000000 in
theorem oback_long {sv : Option Addr} {L cap : Nat} {is : List IV} {w : World} (I : Items w sv is) (hL : is.length = L) (hlong : isLong is = true) :
    Calls Try.prog 7 #[.slice sv L cap] w fun e w' => e = .returned (.bool true) ∧ Below w.heap.size w w' := by
  have hk := oknown_any w
  have HI := hide I
  have HL := hide hL
  have HLO := hide hlong
  clear I hL hlong
  go_enter Try.func7, Try.ntmps7
  go_wp2_with fail
  refine hk.mono ?_
  rintro e w1 ⟨rfl, b1⟩
  have HB1 := hide b1
  have hn := onew_yes 100000 (by omega) w1
  clear hk b1
  go_wp2_with fail
  refine hn.mono ?_
  rintro e w2 ⟨p, c, rfl, P, hp, hc, b2⟩
  have HB2 := hide (HB1.out.trans (b2.mono HB1.out.size))
  have hlo := olong_any (cap := cap) (HI.out.below HB2.out) HL.out
  rw [HLO.out] at hlo
  clear hn P hp hc b2
  go_wp2_with fail
  refine hlo.mono ?_
  rintro e w3 ⟨rfl, hw3⟩
  obtain rfl := hw3.symm
  clear hlo hw3
  go_wp2
  go_ret
  exact ⟨rfl, HB2.out⟩
theorem end_one {zs : List Int} : endR (zs ++ [7]) ⟨zs.length, 0, 0⟩ = (4, (zs.length : Int)) := by
  unfold endR
  dsimp only
  rw [if_pos ⟨rfl, by simp⟩]
theorem PR.base' {base lo r c n cap c' : Nat} {a b : Option Addr} {zs : List Int} {s : RS} {w A B : World} {m d : Nat} {t x y : Int} (_ : PR lo B r c a n cap zs s) (C : Cur A c' (.slice b m d) t x y) (hb : Below base w A) (S : Spared (fun k => k = c') A B) (hc : base ≤ c') : Below base w B :=
  hb.trans (S.to_below (Nat.le_trans hc (Nat.le_of_lt C.lt)) (fun k hk => by omega))
theorem otakes_back {lo r c n cap : Nat} {a : Option Addr} {zs : List Int} {s' : RS} {sv : Option Addr} {L cp : Nat} {is : List IV} {w : World} (P : PR lo w r c a n cap zs ⟨0, 0, 0⟩) (I : Items w sv is) (hL : is.length = L) (h40 : L ≤ 40) (hF : is.foldl (tf zs) (true, ⟨0, 0, 0⟩) = (true, s')) (h7 : ¬ (endR zs s').1 = 7) :
    Calls Try.prog 32 #[.pointer (some ⟨r, 0, none⟩), .slice sv L cp] w fun e w' => e = .returned (.bool true) ∧ PR lo w' r c a n cap zs s' ∧ Spared (fun k => k = c) w w' := by
  have h := otakes_any (cp := cp) P I hL h40
  rw [hF] at h
  refine h.mono ?_
  rintro e w' ⟨rfl, h1, h2⟩
  exact ⟨by simp [h7], h1, h2⟩
theorem otakes_short {lo r c n cap t : Nat} {a : Option Addr} {zs : List Int} {fa : Int} {sv : Option Addr} {L cp : Nat} {is : List IV} {w : World} (P : PR lo w r c a n cap zs ⟨0, 0, 0⟩) (I : Items w sv is) (hL : is.length = L) (h40 : L ≤ 40) (hF : (is.foldl (tf zs) (true, ⟨0, 0, 0⟩)).2 = ⟨t, 7, fa⟩) :
    Calls Try.prog 32 #[.pointer (some ⟨r, 0, none⟩), .slice sv L cp] w fun e w' => e = .returned (.bool false) ∧ PR lo w' r c a n cap zs ⟨t, 7, fa⟩ ∧ Spared (fun k => k = c) w w' := by
  have h := otakes_any (cp := cp) P I hL h40
  rw [hF, end_fault zs t 7 fa (by decide)] at h
  refine h.mono ?_
  rintro e w' ⟨rfl, h1, h2⟩
  exact ⟨by simp, h1, h2⟩
theorem PW.items {lo lo' p c most n cap : Nat} {a : Option Addr} {s : List Int × Int} {A B : World} {kv : Value} {is : List IV} (P : PW lo A p c most a n cap s) (K : OwnI lo' A kv is) (S : Spared (fun k => kv.ownBlock = some k) A B) : PW lo B p c most a n cap s := by
  obtain ⟨fa, C⟩ := P.cur
  exact P.spared S (fun h => K.apart P.wri (by decide) h rfl) (fun h => K.apart C (by decide) h rfl) (fun k hk h => K.bytes P.own h (by rw [rowOf_eq]; exact hk))
theorem OwnI.wri {lo lo' p c most n cap : Nat} {a : Option Addr} {s : List Int × Int} {A B : World} {kv : Value} {is : List IV} (K : OwnI lo' A kv is) (P : PW lo A p c most a n cap s) (S : Spared (fun k => k = c ∨ rowOf a k) A B) : OwnI lo' B kv is := by
  obtain ⟨fa, C⟩ := P.cur
  exact K.spared S (fun k hk hf => hf.elim (fun e => K.apart C (by decide) hk e) (fun e => K.bytes P.own hk (by rw [rowOf_eq]; exact e)))
theorem tells_yes (zs : List Int) : tells (zs, 0) = zs := if_pos rfl
theorem take_snoc {is : List IV} {j : Nat} {v : IV} (h : is[j]? = some v) : is.take (j + 1) = is.take j ++ [v] := by rw [List.take_add_one, h]; rfl
theorem bs_raws {v : IV} (h : v.raws = true) : v.bs = v.zs := if_pos h
theorem bs_nums {v : IV} (h : v.raws = false) : v.bs = be v.k.toNat v.x.toNat := if_neg (by rw [h]; exact Bool.false_ne_true)
theorem good_snoc {is : List IV} {v : IV} (h : ∀ u ∈ is, u.Good) (hv : v.Good) : ∀ u ∈ is ++ [v], u.Good := fun u hu => by
  rcases List.mem_append.1 hu with hu | hu
  · exact h u hu
  · obtain rfl := List.mem_singleton.1 hu
    exact hv
set_option maxRecDepth 100000 in
set_option maxHeartbeats 16000000 in
theorem oback_few {sv : Option Addr} {L cap : Nat} {is : List IV} {w : World} (I : Items w sv is) (hL : is.length = L) (hlong : isLong is = false) :
    Calls Try.prog 7 #[.slice sv L cap] w fun e w' => e = .returned (.bool true) ∧ Below w.heap.size w w' := by
  have hk := oknown_any w
  have HI := hide I
  have HL := hide hL
  have HLO := hide hlong
  have H40 : Hid (L ≤ 40) := by have := (isLong_no hlong).1; show L ≤ 40; omega
  have H100 := hide (isLong_no hlong).2
  clear I hL hlong
  go_enter Try.func7, Try.ntmps7
  go_wp2_with fail
  refine hk.mono ?_
  rintro e w1 ⟨rfl, b1⟩
  have HB1 := hide b1
  have hn := onew_yes 100000 (by omega) w1
  clear hk b1
  go_wp2_with fail
  refine hn.mono ?_
  rintro e w2 ⟨p, c, rfl, P, hp, hc, b2⟩
  have HB2 := hide (HB1.out.trans (b2.mono HB1.out.size))
  have HP := hide P
  have HC := hide hc
  have HPp := hide hp
  have hlo := olong_any (cap := cap) (HI.out.below HB2.out) HL.out
  rw [HLO.out] at hlo
  clear hn P hp hc b2
  go_wp2_with fail
  refine hlo.mono ?_
  rintro e w3 ⟨rfl, hw3⟩
  obtain rfl := hw3.symm
  clear hlo hw3
  go_wp2_with fail
  go_loopw [6, 7] (fun u i wr => ∃ (j : Nat) (a : Option Addr) (n cp : Nat) (ka : Option Addr) (kc : Nat), j ≤ L ∧ j ≤ 40 ∧ i = .int .i64 j ∧ u = .slice ka j kc ∧ Hid (PW w1.heap.size wr p c 100000 a n cp (flat (is.take j), 0)) ∧ Hid (OwnI w1.heap.size wr (.slice ka j kc) (is.take j)) ∧ Hid (∀ v ∈ is.take j, v.Good) ∧ Hid (Below w.heap.size w wr)) (fun _ i _ => 40 - (intOf i).toNat)
  case atStart => exact ⟨0, none, 0, 0, none, 0, Nat.zero_le _, by omega, rfl, rfl, HP.out, owni_nil _ _, fun _ h => by simp at h, HB2.out⟩
  case round =>
    clear HP HB2
    obtain ⟨j, a, n, cp, ka, kc, hj, hj40, rfl, rfl, HP, HK, HGD, HB⟩ := hrel
    by_cases hjL : j < L
    · have hji : (j : Int) < (L : Int) := by omega
      have hjl : j < is.length := by rw [HL.out]; exact hjL
      have hX : is[j]? = some is[j] := List.getElem?_eq_getElem hjl
      obtain ⟨v, hv⟩ : ∃ v, is[j] = v := ⟨_, rfl⟩
      rw [hv] at hX
      obtain ⟨g, o, rfl, hg, c0, c1, c2, c3⟩ := (HI.out.below HB.out).cells j v hX
      have HX := hide hX
      have HJL := hide hjL
      clear hv hjl hX hjL
      cases hr : v.raws with
      | true =>
        rw [hr] at c0
        have B0 := below_new wr (.cells #[.bool true, .int .i64 v.k, .int .i64 v.x, .slice v.a v.zs.length v.c] 34)
        have Y0 := Box.new wr (.cells #[.bool true, .int .i64 v.k, .int .i64 v.x, .slice v.a v.zs.length v.c] 34)
        have P0 := HP.out.below B0
        have K0 := HK.out.below B0
        have hcall := oraw_any P0 (lo' := 0) ((((HI.out.below HB.out).held j v HX.out).below (below_new wr _)))
        obtain ⟨s', hs'⟩ : ∃ s', rawW 100000 (flat (is.take j), 0) v.zs = s' := ⟨_, rfl⟩
        rw [hs'] at hcall
        have HP0 := hide P0
        have HK0 := hide K0
        have HY0 := hide Y0
        have HB0 := hide (HB.out.trans (B0.mono HB.out.size))
        have HS' := hide hs'
        have HR := hide hr
        clear B0 Y0 P0 K0 hs' hr
        go_wp2_with fail
        refine hcall.mono ?_
        rintro e v1 ⟨a1, n1, k1, rfl, P1, S1, T1⟩
        have K1 := HK0.out.wri HP0.out S1
        have hlw : w.heap.size ≤ w1.heap.size := HB1.out.size
        have HB1' : Hid (Below w.heap.size w v1) := HB0.out.trans (S1.to_below HB0.out.size (fun k hk => hk.elim (fun e => by have := HC.out; omega) (fun e => by have := (HP0.out.row e).1; omega)))
        have Y1 : Box v1 wr.heap.size (.cells #[.bool true, .int .i64 v.k, .int .i64 v.x, .slice v.a v.zs.length v.c] 34) := HY0.out.spared S1 (fun hk => hk.elim (fun e => by
          obtain ⟨fa, C⟩ := HP0.out.cur
          exact Box.apart HY0.out C (by decide) e) (fun e => HP0.out.own.apart HY0.out (by decide) (by rw [rowOf_eq]; exact e) rfl))
        have HP1 := hide P1
        have HK1 := hide K1
        obtain ⟨y0, y1, y2, y3, _⟩ := four_cells Y1
        clear hcall S1 T1 P1 K1 Y1 HP0 HK0 HY0 HB0 HP HK c0 c1 c2 c3
        obtain ⟨zs', er⟩ := s'
        by_cases h0 : er = 0
        · subst h0
          have hnx : Hid (v.Good ∧ (zs', (0 : Int)) = (flat (is.take (j + 1)), 0)) := by
            have hr := HR.out
            have hs' := HS'.out
            have h0 : ((zs', (0 : Int)) : List Int × Int).2 = 0 := rfl
            have hgd : v.Good := fun e => by rw [hr] at e; cases e
            have hst : rawW 100000 (flat (is.take j), 0) v.zs = (flat (is.take (j + 1)), 0) := by
              rw [take_snoc HX.out, flat_snoc, bs_raws hr]
              exact rawW_good rfl (by rw [hs'])
            exact ⟨hgd, hs'.symm.trans hst⟩
          have hapx := owni_append HK1.out v (by rw [List.length_take]; omega) (Nat.le_trans HP1.out.lo_ (Nat.le_refl _))
          rw [HR.out] at hapx
          obtain ⟨a6, c6, w6, hap, K6, G6⟩ := hapx
          have hlt : (is.take j).length = j := by rw [List.length_take]; have := HL.out; omega
          rw [hlt] at hap K6
          have S6 := Spared.of_grown G6
          have HP6 : Hid (PW w1.heap.size w6 p c 100000 a1 n1 k1 (flat (is.take (j + 1)), 0)) := by
            have := HP1.out.items HK1.out S6
            rw [hnx.out.2] at this
            exact this
          have HK6 : Hid (OwnI w1.heap.size w6 (.slice a6 (j + 1) c6) (is.take (j + 1))) := by rw [take_snoc HX.out]; exact K6
          have HG6 : Hid (∀ u ∈ is.take (j + 1), u.Good) := by rw [take_snoc HX.out]; exact good_snoc HGD.out hnx.out.1
          have HB6 : Hid (Below w.heap.size w w6) := HB1'.out.trans (S6.to_below HB1'.out.size (fun k hk => by have := (HK1.out.lt hk).1; omega))
          clear K6 G6 S6 HP1 HK1 HB1' hnx hlt hlw
          dsimp only
          go_wp2_with (at_builtin; refine Lib.wpList_append_run _ rfl _ _ _ _ rfl _ _ rfl rfl _ _ hap ?_)
          exact ⟨⟨j + 1, a1, n1, k1, a6, c6, by have := HJL.out; omega, by have := HJL.out; have := H40.out; omega, by go_num, rfl, HP6, HK6, HG6, HB6⟩, by have := HJL.out; have := H40.out; simp [intOf]; omega⟩
        · have hbp := obytes_any HP1.out
          have HB7 := hide HB1'.out
          clear HP1 HK1 y0 y1 y2 y3 HB1'
          dsimp only at hbp ⊢
          go_wp2_with fail
          refine hbp.mono ?_
          rintro e v2 ⟨a2, n2, k2, rfl, _, b2⟩
          have HB2 := hide (HB7.out.trans (b2.mono HB7.out.size))
          clear hbp b2 HB7
          go_wp2
          go_ret
          exact ⟨rfl, HB2.out⟩
      | false =>
        rw [hr] at c0
        have B0 := below_new wr (.cells #[.bool false, .int .i64 v.k, .int .i64 v.x, .slice v.a v.zs.length v.c] 34)
        have Y0 := Box.new wr (.cells #[.bool false, .int .i64 v.k, .int .i64 v.x, .slice v.a v.zs.length v.c] 34)
        have P0 := HP.out.below B0
        have K0 := HK.out.below B0
        have hcall := oput_any (k := v.k) (x := v.x) P0 (HI.out.fits j v HX.out).2.2
        obtain ⟨s', hs'⟩ : ∃ s', putW 100000 (flat (is.take j), 0) v.k v.x = s' := ⟨_, rfl⟩
        rw [hs'] at hcall
        have HP0 := hide P0
        have HK0 := hide K0
        have HY0 := hide Y0
        have HB0 := hide (HB.out.trans (B0.mono HB.out.size))
        have HS' := hide hs'
        have HR := hide hr
        clear B0 Y0 P0 K0 hs' hr
        go_wp2_with fail
        refine hcall.mono ?_
        rintro e v1 ⟨a1, n1, k1, rfl, P1, S1, T1⟩
        have K1 := HK0.out.wri HP0.out S1
        have hlw : w.heap.size ≤ w1.heap.size := HB1.out.size
        have HB1' : Hid (Below w.heap.size w v1) := HB0.out.trans (S1.to_below HB0.out.size (fun k hk => hk.elim (fun e => by have := HC.out; omega) (fun e => by have := (HP0.out.row e).1; omega)))
        have Y1 : Box v1 wr.heap.size (.cells #[.bool false, .int .i64 v.k, .int .i64 v.x, .slice v.a v.zs.length v.c] 34) := HY0.out.spared S1 (fun hk => hk.elim (fun e => by
          obtain ⟨fa, C⟩ := HP0.out.cur
          exact Box.apart HY0.out C (by decide) e) (fun e => HP0.out.own.apart HY0.out (by decide) (by rw [rowOf_eq]; exact e) rfl))
        have HP1 := hide P1
        have HK1 := hide K1
        obtain ⟨y0, y1, y2, y3, _⟩ := four_cells Y1
        clear hcall S1 T1 P1 K1 Y1 HP0 HK0 HY0 HB0 HP HK c0 c1 c2 c3
        obtain ⟨zs', er⟩ := s'
        by_cases h0 : er = 0
        · subst h0
          have hnx : Hid (v.Good ∧ (zs', (0 : Int)) = (flat (is.take (j + 1)), 0)) := by
            have hr := HR.out
            have hs' := HS'.out
            have h0 : ((zs', (0 : Int)) : List Int × Int).2 = 0 := rfl
            have hpg := putW_good (most := 100000) (s := (flat (is.take j), 0)) (k := v.k) (x := v.x) rfl (by rw [hs'])
            have hgd : v.Good := fun _ => hpg.1
            have hst : putW 100000 (flat (is.take j), 0) v.k v.x = (flat (is.take (j + 1)), 0) := by
              rw [take_snoc HX.out, flat_snoc, bs_nums hr]
              exact hpg.2
            exact ⟨hgd, hs'.symm.trans hst⟩
          have hapx := owni_append HK1.out v (by rw [List.length_take]; omega) (Nat.le_trans HP1.out.lo_ (Nat.le_refl _))
          rw [HR.out] at hapx
          obtain ⟨a6, c6, w6, hap, K6, G6⟩ := hapx
          have hlt : (is.take j).length = j := by rw [List.length_take]; have := HL.out; omega
          rw [hlt] at hap K6
          have S6 := Spared.of_grown G6
          have HP6 : Hid (PW w1.heap.size w6 p c 100000 a1 n1 k1 (flat (is.take (j + 1)), 0)) := by
            have := HP1.out.items HK1.out S6
            rw [hnx.out.2] at this
            exact this
          have HK6 : Hid (OwnI w1.heap.size w6 (.slice a6 (j + 1) c6) (is.take (j + 1))) := by rw [take_snoc HX.out]; exact K6
          have HG6 : Hid (∀ u ∈ is.take (j + 1), u.Good) := by rw [take_snoc HX.out]; exact good_snoc HGD.out hnx.out.1
          have HB6 : Hid (Below w.heap.size w w6) := HB1'.out.trans (S6.to_below HB1'.out.size (fun k hk => by have := (HK1.out.lt hk).1; omega))
          clear K6 G6 S6 HP1 HK1 HB1' hnx hlt hlw
          dsimp only
          go_wp2_with (at_builtin; refine Lib.wpList_append_run _ rfl _ _ _ _ rfl _ _ rfl rfl _ _ hap ?_)
          exact ⟨⟨j + 1, a1, n1, k1, a6, c6, by have := HJL.out; omega, by have := HJL.out; have := H40.out; omega, by go_num, rfl, HP6, HK6, HG6, HB6⟩, by have := HJL.out; have := H40.out; simp [intOf]; omega⟩
        · have hbp := obytes_any HP1.out
          have HB7 := hide HB1'.out
          clear HP1 HK1 y0 y1 y2 y3 HB1'
          dsimp only at hbp ⊢
          go_wp2_with fail
          refine hbp.mono ?_
          rintro e v2 ⟨a2, n2, k2, rfl, _, b2⟩
          have HB2 := hide (HB7.out.trans (b2.mono HB7.out.size))
          clear hbp b2 HB7
          go_wp2
          go_ret
          exact ⟨rfl, HB2.out⟩
    · have hji : ¬ (j : Int) < (L : Int) := by omega
      have hall : is.take j = is := List.take_of_length_le (by rw [HL.out]; omega)
      have hjL' : j = is.length := by rw [HL.out]; omega
      rw [hall] at HP HK HGD
      have hbp := obytes_any HP.out
      rw [tells_yes] at hbp
      have hfit : Hid (∀ v ∈ is, v.Good ∧ v.x ≤ 9223372036854775807) := fun v hv => by
        obtain ⟨i, hi, e⟩ := List.mem_iff_getElem.1 hv
        have hx : is[i]? = some v := by rw [List.getElem?_eq_getElem hi, e]
        exact ⟨HGD.out v hv, (HI.out.fits i v hx).2.2⟩
      have HFL : Hid ((flat is).length ≤ 4000) := by
        have h1 := flat_le is (fun v hv => ⟨HGD.out v hv, H100.out v hv⟩)
        have h2 := H40.out
        have h3 := HL.out
        show (flat is).length ≤ 4000
        omega
      have HBK : Hid (is.foldl (tf (flat is)) (true, ⟨0, 0, 0⟩) = (true, ⟨(flat is).length, 0, 0⟩)) := by
        have := fold_back is [] [] (by simp : flat is = [] ++ (flat is ++ [])) hfit.out true
        simp only [List.nil_append, List.length_nil] at this
        exact this
      have HBS : Hid (is.foldl (tf (flat is ++ [7])) (true, ⟨0, 0, 0⟩) = (true, ⟨(flat is).length, 0, 0⟩)) := by
        have := fold_back is [] [7] (by simp : flat is ++ [7] = [] ++ (flat is ++ [7])) hfit.out true
        simp only [List.nil_append, List.length_nil] at this
        exact this
      have HSH : Hid (0 < (flat is).length → ∃ t : Nat, (is.foldl (tf ((flat is).take ((flat is).length - 1))) (true, ⟨0, 0, 0⟩)).2 = ⟨t, 7, ((flat is).take ((flat is).length - 1)).length⟩) := fun h0 =>
        fold_short is [] ((flat is).take ((flat is).length - 1)) ((flat is).drop ((flat is).length - 1)) (by simp) (List.take_append_drop _ _).symm (fun e => by
          have := congrArg List.length e
          rw [List.length_drop] at this
          simp at this
          omega) hfit.out true
      have HIT : Hid (∀ V, Below wr.heap.size wr V → Items V ka is) := fun V hV =>
        (HK.out.below hV).items (fun v hv => by
          obtain ⟨i, hi, e⟩ := List.mem_iff_getElem.1 hv
          have hx : is[i]? = some v := by rw [List.getElem?_eq_getElem hi, e]
          exact (HI.out.below (HB.out.trans (hV.mono HB.out.size))).held i v hx) (fun v hv => by
          obtain ⟨i, hi, e⟩ := List.mem_iff_getElem.1 hv
          have hx : is[i]? = some v := by rw [List.getElem?_eq_getElem hi, e]
          exact HI.out.fits i v hx)
      have HJI := hide hjL'
      obtain ⟨zs, hzs⟩ : ∃ zs, flat is = zs := ⟨_, rfl⟩
      rw [hzs] at hbp HFL HBK HBS HSH
      clear hall hjL' HP HK HGD hfit hzs hj hjL
      go_wp2_with fail
      refine hbp.mono ?_
      rintro e w5 ⟨b5, n5, k5, rfl, Z5, bl5⟩
      obtain rfl : n5 = zs.length := Z5.len.1
      have HZ5 := hide Z5
      have HW5 : Hid (Below wr.heap.size wr w5) := bl5
      have hr := onewr_any Z5 (by have := HFL.out; omega)
      clear hbp Z5 bl5
      go_wp2_with fail
      refine hr.mono ?_
      rintro e w6 ⟨r, c1, a1, d1, rfl, P1, hr1, hc1, b6⟩
      have HP1 := hide P1
      have HW6 := hide (HW5.out.trans (b6.mono HW5.out.size))
      have HC1 : Hid (w5.heap.size ≤ c1) := hc1
      have HV6 := hide b6
      have hcp := copyo_any (HZ5.out.below b6) (by have := HFL.out; omega)
      have HB56 := hide b6
      clear hr P1 hr1 hc1 b6
      go_wp2_with fail
      refine hcp.mono ?_
      rintro e w7 ⟨a7, k7, rfl, O7, b7⟩
      obtain ⟨a8, k8, w8, hap, O8, b8⟩ := ownb_append O7 7 (by decide) (by have := HFL.out; omega) b7.size
      have HB68 : Hid (Below w6.heap.size w6 w8) := b7.trans b8
      obtain ⟨_, _, e8, Z8⟩ := ownb_seg O8
      rw [List.length_append] at e8 Z8
      simp only [Value.slice.injEq] at e8
      obtain ⟨rfl, _, rfl⟩ := e8
      have hs := onewr_any Z8 (by have := HFL.out; simp; omega)
      have hlen7 : zs.length + [7].length = zs.length + 1 := rfl
      clear hcp O7 b7 O8 b8 Z8
      go_wp2_with (at_builtin; refine Lib.wpList_append_run _ rfl _ _ _ _ rfl _ _ rfl rfl _ _ hap ?_)
      refine hs.mono ?_
      rintro e w9 ⟨q, c2, a2, d2, rfl, P2, hq, hc2, b9⟩
      have HB69 := hide (HB68.out.trans (b9.mono HB68.out.size))
      have HW9 := hide (HW6.out.trans (HB69.out.mono HW6.out.size))
      have HV9 := hide (HV6.out.trans (HB69.out.mono HV6.out.size))
      have HCV2 : Hid (w5.heap.size ≤ c2) := Nat.le_trans HV6.out.size (Nat.le_trans HB68.out.size hc2)
      have P1' := HP1.out.below HB69.out
      have HNC : Hid (c2 ≠ c1) := by show c2 ≠ c1; have := HP1.out.cur.lt; have := HB68.out.size; omega
      have HCW : Hid (wr.heap.size ≤ c1) := Nat.le_trans HW5.out.size HC1.out
      have HCW2 : Hid (wr.heap.size ≤ c2) := Nat.le_trans HW6.out.size (Nat.le_trans HB68.out.size hc2)
      have HP2 := hide P2
      have HPC := hide P1'.cur
      have ht1 := otakes_back (cp := kc) P1' (HIT.out _ HW9.out) HJI.out.symm hj40 HBK.out (by rw [end_whole rfl]; decide)
      clear hs P2 hq hc2 b9 P1' hap hlen7 HP1
      go_wp2_with fail
      refine ht1.mono ?_
      rintro e w10 ⟨rfl, P10, S10⟩
      have Q10 := HP2.out.rdr2 HPC.out S10 HNC.out
      have HW10 := hide (P10.base' HPC.out HW9.out S10 HCW.out)
      have HV10 := hide (P10.base' HPC.out HV9.out S10 HC1.out)
      have ht2 := otakes_back (cp := kc) Q10 (HIT.out _ HW10.out) HJI.out.symm hj40 HBS.out (by rw [end_one]; exact (by decide : ¬ (4 : Int) = 7))
      have HP10 := hide P10
      have HQC := hide Q10.cur
      clear ht1 P10 S10 Q10 HP2 HPC
      go_wp2_with fail
      refine ht2.mono ?_
      rintro e w11 ⟨rfl, Q11, S11⟩
      have P11 := HP10.out.rdr2 HQC.out S11 (fun e => HNC.out e.symm)
      have HW11 := hide (Q11.base' HQC.out HW10.out S11 HCW2.out)
      have HV11 := hide (Q11.base' HQC.out HV10.out S11 HCV2.out)
      have he1 := oends_yes P11 0 0 (end_whole rfl)
      have HP11 := hide P11
      have HQ11 := hide Q11
      clear ht2 P11 S11 Q11 HP10 HQC
      go_wp2_with fail
      refine he1.mono ?_
      rintro e w12 ⟨rfl, b12⟩
      have HP12 := hide (HP11.out.below b12)
      have HQ12 := hide (HQ11.out.below b12)
      have HW12 := hide (HW11.out.trans (b12.mono HW11.out.size))
      have HV12 := hide (HV11.out.trans (b12.mono HV11.out.size))
      have hre := orest_any HP12.out
      have hr0 : restR zs ⟨zs.length, 0, 0⟩ = 0 := by unfold restR; dsimp only; rw [if_pos rfl]; omega
      rw [hr0] at hre
      clear he1 b12 HP11 HQ11 hr0
      go_wp2_with fail
      refine hre.mono ?_
      rintro e w13 ⟨rfl, b13⟩
      have HQ13 := hide (HQ12.out.below b13)
      have HW13 := hide (HW12.out.trans (b13.mono HW12.out.size))
      have HV13 := hide (HV12.out.trans (b13.mono HV12.out.size))
      have he2 := oends_yes HQ13.out 4 zs.length end_one
      clear hre b13 HP12 HQ12
      go_wp2_with fail
      refine he2.mono ?_
      rintro e w14 ⟨rfl, b14⟩
      have HW14 := hide (HW13.out.trans (b14.mono HW13.out.size))
      have HV14 := hide (HV13.out.trans (b14.mono HV13.out.size))
      clear he2 b14 HQ13
      by_cases h0 : zs.length = 0
      · have hz0 : (zs.length : Int) = 0 := by omega
        have HBE := hide (HB.out.trans (HW14.out.mono HB.out.size))
        go_wp2
        go_ret
        exact ⟨rfl, HBE.out⟩
      · have hz0 : ¬ (zs.length : Int) = 0 := by omega
        obtain ⟨m, hm⟩ : ∃ m, zs.length - 1 = m := ⟨_, rfl⟩
        have hwm : IntKind.i64.wrap ((zs.length : Int) - 1) = (m : Int) := by rw [IntKind.wrap_i64]; have := HFL.out; omega
        have hmk : m ≤ k5 := by have := HZ5.out.len; omega
        have hmz : m ≤ zs.length := by omega
        have HBW : Hid (Below w5.heap.size w5 w14) := HV14.out
        have Z14 := (HZ5.out.below HBW.out).take hmz
        have hnr := onewr_any Z14 (by have := HFL.out; omega)
        have HM := hide hm
        have H0 := hide h0
        clear h0 hm Z14
        go_wp2_with fail
        refine hnr.mono ?_
        rintro e w15 ⟨t, c3, a3, d3, rfl, P3, ht, hc3, b15⟩
        have HW15 := hide (HW14.out.trans (b15.mono HW14.out.size))
        obtain ⟨tt, hsh⟩ := HSH.out (Nat.pos_of_ne_zero H0.out)
        rw [HM.out] at hsh
        have hlm : (zs.take m).length = m := by rw [List.length_take]; have := HM.out; omega
        rw [hlm] at hsh
        have hts := otakes_short (cp := kc) P3 (HIT.out _ HW15.out) HJI.out.symm hj40 hsh
        have HPC3 := hide P3.cur
        have HC3 : Hid (wr.heap.size ≤ c3) := Nat.le_trans HW14.out.size hc3
        clear hnr P3 ht hc3 b15 hsh
        go_wp2_with fail
        refine hts.mono ?_
        rintro e w16 ⟨rfl, P16, S16⟩
        have HW16 := hide (P16.base' HPC3.out HW15.out S16 HC3.out)
        have he3 := oends_yes P16 7 m (end_fault _ tt 7 m (by decide))
        clear hts P16 S16 HPC3
        go_wp2_with fail
        refine he3.mono ?_
        rintro e w17 ⟨rfl, b17⟩
        have HBE := hide ((HB.out.trans (HW16.out.mono HB.out.size)).trans (b17.mono (Nat.le_trans HB.out.size HW16.out.size)))
        clear he3 b17
        go_wp2
        go_ret
        exact ⟨rfl, HBE.out⟩
theorem oback_any {sv : Option Addr} {cap : Nat} {is : List IV} {w : World} (I : Items w sv is) :
    Calls Try.prog 7 #[.slice sv is.length cap] w fun e w' => e = .returned (.bool true) ∧ Below w.heap.size w w' := by
  cases h : isLong is with
  | true => exact oback_long I rfl h
  | false => exact oback_few I rfl h
end Go.Proofs.Ythpobmgnpgogaaa
