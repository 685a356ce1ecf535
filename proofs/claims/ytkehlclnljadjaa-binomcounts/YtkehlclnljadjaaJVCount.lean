/-
  Joined: VCount BCounts.
-/
import Derived.Test.YtkehlclnljadjaaJMul
import Derived.Test.YtkehlclnljadjaaRMulB
namespace Go.Proofs.Ytkehlclnljadjaa
open Go.RowKit
theorem sml_drop (l : List Nat) (k : Nat) (hk : k < l.length) : sml (l.drop k) = l[k]?.getD 0 + sml (l.drop (k + 1)) := by
  rw [List.drop_eq_getElem_cons hk, List.getElem?_eq_getElem hk]; rfl
theorem mlt_drop (l : List Nat) (k : Nat) (hk : k < l.length) : mlt (l.drop k) = ch (sml (l.drop k)) (l[k]?.getD 0) * mlt (l.drop (k + 1)) := by
  rw [List.drop_eq_getElem_cons hk, List.getElem?_eq_getElem hk]; rfl
set_option maxRecDepth 100000 in
set_option maxHeartbeats 4000000 in
theorem vcount_any {lo : Nat} {a : Option Addr} {cap : Nat} {zs : List Int} {w : World} (o : Option (List Nat)) (hI : Intz lo w (.slice a zs.length cap) zs) (hS : Sizes zs o) (hl : zs.length ≤ 12) :
    Calls Try.prog 19 #[.slice a zs.length cap] w fun e w' => ∃ (a' : Option Addr) (c' : Nat) (ts : List Int), e = .returned (.tuple #[.slice a' ts.length c', .int .i64 (countOf o).1]) ∧ Seg w.heap.size w' (.slice a' ts.length c') ts ∧ Norm ts ∧ Hid (val ts = ((countOf o).2 : Nat)) ∧ ts.length ≤ 204 ∧ Below w.heap.size w w' := by
  obtain ⟨ls, hpre, hle, hx⟩ : ∃ ls : List Nat, (∀ x ∈ ls, x ≤ 60) ∧ ls.length ≤ zs.length ∧ Hid ((∀ k, k < ls.length → zs[k]?.getD 0 = ((ls[k]?.getD 0 : Nat) : Int)) ∧ ((ls.length = zs.length ∧ o = some ls) ∨ (ls.length < zs.length ∧ o = none ∧ (zs[ls.length]?.getD 0 < 0 ∨ 65536 < zs[ls.length]?.getD 0)))) := by
    cases hS with
    | all ls h => exact ⟨ls, h, by rw [ins_length]; exact Nat.le_refl _, fun k _ => ins_get ls k, Or.inl ⟨(ins_length ls).symm, rfl⟩⟩
    | no ls h x hx post =>
      refine ⟨ls, h, by simp [ins_length], fun k hk => ?_, Or.inr ⟨by simp [ins_length], rfl, ?_⟩⟩
      · rw [List.getElem?_append_left (by rw [ins_length]; exact hk)]; exact ins_get ls k
      · rw [List.getElem?_append_right (by rw [ins_length]; exact Nat.le_refl _), ins_length, Nat.sub_self]; exact hx
  have hsml := sml_le ls hpre
  obtain ⟨n, hn⟩ : ∃ n, zs.length = n := ⟨_, rfl⟩
  have HN := hide hn
  rw [hn] at hI hl hle ⊢
  clear hn hS
  go_enter Try.func19, Try.ntmps19
  go_wp2
  go_loopw [4, 5] (fun sum cnt wr => ∃ (k : Nat), k ≤ ls.length ∧ sum = .int .i64 (sml (ls.take k) : Nat) ∧ cnt = .int .i64 k ∧ w = wr) (fun _ c _ => n + 1 - (intOf c).toNat)
  case atStart => exact ⟨0, Nat.zero_le _, rfl, rfl, rfl⟩
  case round =>
    obtain ⟨k, hk, rfl, rfl, rfl⟩ := hrel
    have hst := sml_take_succ ls k
    have hst2 : sml (ls.take k) ≤ 720 := by
      have h1 := sml_le (ls.take k) (fun x hx => hpre x (List.mem_of_mem_take hx))
      rw [List.length_take] at h1
      omega
    by_cases hkl : k < ls.length
    · have hkn : (k : Int) < (n : Int) := by omega
      obtain ⟨b, off, rfl, _, hlt⟩ := hI.row (by omega)
      have hc := (hI.cell (j := k) (by omega)).1
      rw [hx.out.1 k hkl] at hc
      have hxk : ls[k]?.getD 0 ≤ 60 := by
        rw [List.getElem?_eq_getElem hkl]; exact hpre _ (List.getElem_mem hkl)
      generalize ls[k]?.getD 0 = x at *
      have hx0 : ¬ (x : Int) < 0 := by omega
      have hx1 : ¬ (65536 : Int) < (x : Int) := by omega
      generalize hs : sml (ls.take k) = s at *
      have hsx : (s : Int) + (x : Int) = ((sml (ls.take (k + 1)) : Nat) : Int) := by rw [hst]; omega
      have HSX := hide hsx
      have hsi : (s : Int) ≤ 720 := by omega
      have hxi : (x : Int) ≤ 60 := by omega
      have hsx2 : ¬ (65536 : Int) < (s : Int) + (x : Int) := by omega
      have HST := hide hst
      clear hsx hst hs
      go_wp2
      exact ⟨⟨k + 1, by omega, by rw [HSX.out], by go_num, trivial⟩, by simp [intOf]; omega⟩
    · obtain rfl : k = ls.length := by omega
      rw [List.take_length] at hst2 ⊢
      obtain ⟨hx1, hx⟩ := hx.out
      have hln := HN.out
      have HX1 := hide hx1
      rcases hx with ⟨hl1, rfl⟩ | ⟨hl1, rfl, hbad⟩
      · have hkn : ¬ (ls.length : Int) < (n : Int) := by omega
        have hnl : n = ls.length := by omega
        have HNL := hide hnl
        clear hst hx1 hl1 hln hnl
        go_wp2_with fail
        refine (rof_any 1 (by omega) _).mono ?_
        rintro e w1 ⟨a1, c1, us, rfl, S1, N1, v1, l1, B1⟩
        have V1 : Hid (val us * (mlt (ls.drop 0) : Nat) = (mlt ls : Nat)) := by rw [Hid, v1, List.drop_zero]; omega
        clear v1
        go_wp2
        go_loopw [4, 6, 7] (fun sum out cnt w2 => ∃ (k : Nat) (ao : Option Addr) (co : Nat) (ss : List Int), k ≤ n ∧ sum = .int .i64 (sml (ls.drop k) : Nat) ∧ out = .slice ao ss.length co ∧ cnt = .int .i64 k ∧ Seg w.heap.size w2 (.slice ao ss.length co) ss ∧ Norm ss ∧ Hid (val ss * (mlt (ls.drop k) : Nat) = (mlt ls : Nat)) ∧ ss.length ≤ 1 + 16 * k ∧ Below w.heap.size w w2) (fun _ _ c _ => n + 1 - (intOf c).toNat)
        case atStart => exact ⟨0, a1, c1, us, Nat.zero_le _, by rw [List.drop_zero], rfl, rfl, S1, N1, V1, by omega, B1⟩
        case round =>
          obtain ⟨k, ao, co, ss, hk, rfl, rfl, rfl, hss, hns, HE, hsl, hbr⟩ := hrel
          by_cases hkn2 : k < n
          · have hki : (k : Int) < (n : Int) := by omega
            have hkl : k < ls.length := by have := HNL.out; omega
            have hIr := hI.below hbr
            obtain ⟨b, off, rfl, _, hlt⟩ := hIr.row (by omega)
            have hc := (hIr.cell (j := k) (by omega)).1
            rw [HX1.out k hkl] at hc
            have hsd := sml_drop ls k hkl
            have hmd := mlt_drop ls k hkl
            have hxk : ls[k]?.getD 0 ≤ 60 := by
              rw [List.getElem?_eq_getElem hkl]; exact hpre _ (List.getElem_mem hkl)
            have hs1 : sml (ls.drop k) ≤ 720 := by
              have := sml_append (ls.take k) (ls.drop k)
              rw [List.take_append_drop] at this
              omega
            generalize ls[k]?.getD 0 = x at *
            generalize hs : sml (ls.drop k) = s at *
            have hch := vchoose_any s (by omega) (x : Int) wr
            have HS := hide hs
            have HSD := hide hsd
            have HMD := hide hmd
            have hsi : (s : Int) ≤ 720 := by omega
            have hxi : (x : Int) ≤ 60 := by omega
            have hxs : (s : Int) - (x : Int) = ((sml (ls.drop (k + 1)) : Nat) : Int) := by omega
            have HXS := hide hxs
            rw [chI_in] at hch
            clear hs hsd hmd hxs
            go_wp2_with fail
            refine hch.mono ?_
            rintro e w2 ⟨a2, c2, z2, rfl, S2, N2, V2, L2, B2⟩
            have hmu := rmul_any (hss.below B2) S2 (by omega) (by omega)
            have hc2 := (B2.cell (p := ⟨b, off + k, none⟩) hlt).trans hc
            have B02 := hbr.trans (B2.mono hbr.size)
            clear hch
            go_wp2_with fail
            refine hmu.mono ?_
            rintro e w3 ⟨a3, c3, z3, rfl, S3, N3, v3, L3, B3⟩
            have V3 : Hid (val z3 * (mlt (ls.drop (k + 1)) : Nat) = (mlt ls : Nat)) := by
              rw [Hid, v3, V2.out, ← HE.out, HMD.out, Int.natCast_mul, Int.mul_assoc]
            have hc3 := (B3.cell (p := ⟨b, off + k, none⟩) (Nat.lt_of_lt_of_le hlt B2.size)).trans hc2
            have B03 := B02.trans (B3.mono B02.size)
            have S3' := S3.mono B02.size
            clear v3 hmu
            go_wp2
            exact ⟨⟨k + 1, a3, c3, z3, by omega, by rw [HXS.out], rfl, by go_num, S3', N3, V3, by omega, B03⟩, by simp [intOf]; omega⟩
          · obtain rfl : k = n := by omega
            have HF : Hid (val ss = ((countOf (some ls)).2 : Nat)) := by
              have := HE.out
              rw [HNL.out, List.drop_length] at this
              rw [Hid]
              show val ss = ((mlt ls : Nat) : Int)
              rw [← this]
              show _ = val ss * ((1 : Nat) : Int)
              omega
            go_wp2
            go_ret2
            exact ⟨_, _, ss, rfl, hss, hns, HF, by omega, hbr⟩
      · have hkn : (ls.length : Int) < (n : Int) := by omega
        obtain ⟨b, off, rfl, _, hlt⟩ := hI.row (by omega)
        have hc := (hI.cell (j := ls.length) (by omega)).1
        generalize zs[ls.length]?.getD 0 = x at *
        generalize sml ls = s at *
        have hsi : (s : Int) ≤ 720 := by omega
        have hB := Below.refl w.heap.size w
        clear hst hx1 hln hl1
        rcases hbad with hb | hb
        · go_wp2
          all_goals
            go_ret2
            exact ⟨none, 0, [], rfl, Seg.nil _ _, norm_nil, rfl, by simp, hB⟩
        · have hx0 : ¬ x < 0 := by omega
          go_wp2
          all_goals
            go_ret2
            exact ⟨none, 0, [], rfl, Seg.nil _ _, norm_nil, rfl, by simp, hB⟩
set_option maxRecDepth 100000 in
set_option maxHeartbeats 1000000 in
theorem sameints_yes {lo lo' : Nat} {a b : Option Addr} {ca cb : Nat} {zs : List Int} {w : World} (A : Intz lo w (.slice a zs.length ca) zs) (B : Intz lo' w (.slice b zs.length cb) zs) (hl : zs.length ≤ 1000000) :
    Calls Try.prog 20 #[.slice a zs.length ca, .slice b zs.length cb] w fun e w' => e = .returned (.bool true) ∧ Below w.heap.size w w' := by
  obtain ⟨n, hn⟩ : ∃ n, zs.length = n := ⟨_, rfl⟩
  rw [hn] at A B hl ⊢
  clear hn
  go_enter Try.func20, Try.ntmps20
  go_wp2
  go_loopw [5] (fun cnt wr => ∃ (k : Nat), k ≤ n ∧ cnt = .int .i64 k ∧ Below w.heap.size w wr) (fun c _ => n + 1 - (intOf c).toNat)
  case atStart => exact ⟨0, Nat.zero_le _, rfl, Below.refl _ _⟩
  case round =>
    obtain ⟨k, hk, rfl, hbr⟩ := hrel
    by_cases hkn : k < n
    · have hki : (k : Int) < (n : Int) := by omega
      obtain ⟨b1, o1, rfl, _, _⟩ := A.row (by omega)
      obtain ⟨b2, o2, rfl, _, _⟩ := B.row (by omega)
      have h1 := ((A.below hbr).cell (j := k) (by omega)).1
      have h2 := ((B.below hbr).cell (j := k) (by omega)).1
      generalize zs[k]?.getD 0 = x at *
      have hne : (x != x) = false := by simp
      go_wp2_with fail
      go_quiet (fail)
      go_wp2
      exact ⟨⟨k + 1, by omega, by go_num, Below.drewN' hbr _⟩, by simp [intOf]; omega⟩
    · obtain rfl : k = n := by omega
      go_wp2
      go_ret
      exact ⟨rfl, hbr⟩
theorem sizes_of : ∀ zs : List Int, (∀ k, k < zs.length → ¬ (60 < zs[k]?.getD 0 ∧ zs[k]?.getD 0 ≤ 65536)) → ∃ o, Sizes zs o
  | [], _ => ⟨_, Sizes.all [] (by simp)⟩
  | x :: zs, h => by
    by_cases hx : x < 0 ∨ 65536 < x
    · exact ⟨none, Sizes.no [] (by simp) x hx zs⟩
    · have h0 := h 0 (by simp)
      simp only [List.getElem?_cons_zero, Option.getD_some] at h0
      obtain ⟨y, rfl⟩ : ∃ y : Nat, x = y := ⟨x.toNat, by omega⟩
      obtain ⟨o, ho⟩ := sizes_of zs (fun k hk => by have := h (k + 1) (by simp; omega); simpa using this)
      cases ho with
      | all ls hl => exact ⟨some (y :: ls), Sizes.all (y :: ls) (by simp only [List.mem_cons, forall_eq_or_imp]; exact ⟨by omega, hl⟩)⟩
      | no ls hl x' hx' post => exact ⟨none, Sizes.no (y :: ls) (by simp only [List.mem_cons, forall_eq_or_imp]; exact ⟨by omega, hl⟩) x' hx' post⟩
set_option maxRecDepth 100000 in
set_option maxHeartbeats 4000000 in
theorem bcounts_any {a : Option Addr} {len cap : Nat} {zs : List Int} {w : World} (I : Intz 0 w (.slice a len cap) zs) :
    Calls Try.prog 4 #[.slice a len cap] w fun e w' => e = .returned (.bool true) ∧ Below w.heap.size w w' := by
  by_cases h : 12 < len
  · have hi : (12 : Int) < (len : Int) := by omega
    clear h
    go_enter Try.func4, Try.ntmps4
    go_wp2_with fail
    refine (bawake_any w).mono ?_
    rintro e w1 ⟨rfl, B1⟩
    go_wp2
    go_ret
    exact ⟨rfl, B1⟩
  · have hi : ¬ (12 : Int) < (len : Int) := by omega
    have hzl := hide I.len.1
    go_enter Try.func4, Try.ntmps4
    go_wp2
    go_loopw [3] (fun cnt wr => ∃ (k : Nat), k ≤ len ∧ cnt = .int .i64 k ∧ Hid (∀ j, j < k → ¬ (60 < zs[j]?.getD 0 ∧ zs[j]?.getD 0 ≤ 65536)) ∧ w = wr) (fun c _ => len + 1 - (intOf c).toNat)
    case atStart => exact ⟨0, Nat.zero_le _, rfl, fun j hj => absurd hj (by omega), rfl⟩
    case round =>
      obtain ⟨k, hk, rfl, HK, rfl⟩ := hrel
      by_cases hkn : k < len
      · have hki : (k : Int) < (len : Int) := by omega
        obtain ⟨b1, o1, rfl, _, _⟩ := I.row (by omega)
        have h1 := (I.cell (j := k) (by omega)).1
        have HK1 : Hid (¬ (60 < zs[k]?.getD 0 ∧ zs[k]?.getD 0 ≤ 65536) → ∀ j, j < k + 1 → ¬ (60 < zs[j]?.getD 0 ∧ zs[j]?.getD 0 ≤ 65536)) := fun hx j hj => by
          by_cases e : j = k
          · subst e; exact hx
          · exact HK.out j (by omega)
        generalize zs[k]?.getD 0 = x at *
        by_cases hx : 60 < x
        · by_cases hy : x ≤ 65536
          · go_wp2_with fail
            refine (bawake_any w).mono ?_
            rintro e w1 ⟨rfl, B1⟩
            go_wp2
            go_ret
            exact ⟨rfl, B1⟩
          · have HK2 := hide (HK1.out (fun h => hy h.2))
            go_wp2
            exact ⟨⟨k + 1, by omega, by go_num, HK2, trivial⟩, by simp [intOf]; omega⟩
        · have HK2 := hide (HK1.out (fun h => hx h.1))
          go_wp2
          exact ⟨⟨k + 1, by omega, by go_num, HK2, trivial⟩, by simp [intOf]; omega⟩
      · obtain rfl : k = len := by omega
        obtain ⟨o, hS⟩ := sizes_of zs (fun j hj => HK.out j (by have := hzl.out; omega))
        have hl : zs.length ≤ 12 := by have := hzl.out; omega
        have hI := I
        rw [hzl.out] at hI
        have hcp := copyi_any hI (by omega)
        have hlen : k = zs.length := hzl.out
        have hki : ¬ (k : Int) < (k : Int) := by omega
        rw [← hlen] at hcp
        have HL := hide hlen
        clear hlen HK
        go_wp2_with fail
        refine hcp.mono ?_
        rintro e w1 ⟨a1, c1, rfl, I1, B1⟩
        have I1' := I1
        rw [HL.out] at I1'
        have hct := count_any o I1' hS hl
        have hI1 := hI.below B1
        rw [← HL.out] at hct
        clear hcp
        go_wp2_with fail
        refine hct.mono ?_
        rintro e w2 ⟨a2, c2, z2, rfl, S2, N2, V2, L2, B2⟩
        have hI2 := hI1.below B2
        have hvt := vcount_any o hI2 hS hl
        rw [← HL.out] at hvt
        have B02 := B1.trans (B2.mono B1.size)
        clear hct
        go_wp2_with fail
        refine hvt.mono ?_
        rintro e w3 ⟨a3, c3, z3, rfl, S3, N3, V3, L3, B3⟩
        obtain rfl : z2 = z3 := norm_unique S2.words S3.words N2 N3 (by rw [V2.out, V3.out])
        have B03 := B02.trans (B3.mono B02.size)
        have hsm := same_yes (S2.below B3) S3 (by omega)
        clear hvt
        go_wp2_with fail
        refine hsm.mono ?_
        rintro e w4 ⟨rfl, B4⟩
        have hA := ((I1'.below B2).below B3).below B4
        have hB := (hI2.below B3).below B4
        have hsi := sameints_yes hA hB (by omega)
        rw [← HL.out] at hsi
        have B04 := B03.trans (B4.mono B03.size)
        clear hsm
        go_wp2_with fail
        refine hsi.mono ?_
        rintro e w5 ⟨rfl, B5⟩
        replace B04 := B04.trans (B5.mono B04.size)
        clear hsi
        go_wp2_with fail
        refine (bawake_any _).mono ?_
        rintro e w6 ⟨rfl, B6⟩
        have B06 := B04.trans (B6.mono B04.size)
        go_wp2
        go_ret
        exact ⟨rfl, B06⟩
end Go.Proofs.Ytkehlclnljadjaa
