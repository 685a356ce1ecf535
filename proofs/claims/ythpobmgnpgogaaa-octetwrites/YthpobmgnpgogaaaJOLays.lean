/-
  Joined: OLays OWrites.
-/
import Derived.Test.YthpobmgnpgogaaaJOBytes
import Derived.Deep.RegionHeld3
namespace Go.Proofs.Ythpobmgnpgogaaa
open Go.RowKit
theorem PW.doc {lo lo' p c most n cap q mx nx cx : Nat} {a ax : Option Addr} {s sx : List Int × Int} {A B : World} (h : PW lo A p c most a n cap s) (U : UW lo' A q mx ax nx cx sx) (S : Spared (fun k => k = q ∨ rowOf ax k) A B) (D : ∀ k, rowOf a k → ¬ rowOf ax k) : PW lo B p c most a n cap s := by
  obtain ⟨fa, C⟩ := h.cur
  have hx : ∀ k, rowOf ax k → (Value.slice ax nx cx).ownBlock = some k := fun k hk => by rw [rowOf_eq]; exact hk
  have ha : ∀ k, rowOf a k → (Value.slice a n cap).ownBlock = some k := fun k hk => by rw [rowOf_eq]; exact hk
  exact h.spared S (fun hk => hk.elim (fun e => Box.apart h.wri U.box (by decide) e) (fun e => U.own.apart h.wri (by decide) (hx _ e) rfl)) (fun hk => hk.elim (fun e => Box.apart C U.box (by decide) e) (fun e => U.own.apart C (by decide) (hx _ e) rfl)) (fun k hk hf => hf.elim (fun e => h.own.apart U.box (by decide) (ha k hk) e) (D k hk))
theorem UW.prog {lo lo' p c most n cap q mx nx cx : Nat} {a ax : Option Addr} {s sx : List Int × Int} {A B : World} (h : UW lo A q mx ax nx cx sx) (P : PW lo' A p c most a n cap s) (S : Spared (fun k => k = c ∨ rowOf a k) A B) (D : ∀ k, rowOf a k → ¬ rowOf ax k) : UW lo B q mx ax nx cx sx := by
  obtain ⟨fa, C⟩ := P.cur
  have hx : ∀ k, rowOf ax k → (Value.slice ax nx cx).ownBlock = some k := fun k hk => by rw [rowOf_eq]; exact hk
  have ha : ∀ k, rowOf a k → (Value.slice a n cap).ownBlock = some k := fun k hk => by rw [rowOf_eq]; exact hk
  exact h.spared S (fun hk => hk.elim (fun e => Box.apart C h.box (by decide) e.symm) (fun e => P.own.apart h.box (by decide) (ha _ e) rfl)) (fun k hk hf => hf.elim (fun e => h.own.apart C (by decide) (hx k hk) e) (fun e => D k e hk))
theorem apart_w {lo q mx nx cx : Nat} {a a' ax : Option Addr} {sx : List Int × Int} {A : World} (D : ∀ k, rowOf a k → ¬ rowOf ax k) (U : UW lo A q mx ax nx cx sx) (T : Went A a a') : ∀ k, rowOf a' k → ¬ rowOf ax k := fun k hk hx =>
  (T k hk).elim (fun h => D k h hx) (fun h => by have := (U.row hx).2.1; omega)
theorem apart_u {lo p c most n cap : Nat} {a ax ax' : Option Addr} {s : List Int × Int} {A : World} (D : ∀ k, rowOf a k → ¬ rowOf ax k) (P : PW lo A p c most a n cap s) (T : Went A ax ax') : ∀ k, rowOf a k → ¬ rowOf ax' k := fun k hk hx =>
  (T k hx).elim (fun h => D k hk h) (fun h => by have := (P.row hk).2.1; omega)
theorem Byt.fresh {F : Nat → Prop} {L : Nat} {A B : World} {a : Option Addr} {n cap : Nat} {zs : List Int} (h : Byt L A (.slice a n cap) zs) (hs : Spared F A B) (hF : ∀ k, F k → k < L) : Byt L B (.slice a n cap) zs := h.keep hs (fun hz g o e hf => by
  obtain ⟨g', o', e', h1, _⟩ := h.row (by rw [h.len.1]; exact List.length_pos_iff.2 hz)
  rw [e] at e'
  simp only [Option.some.injEq, Addr.mk.injEq] at e'
  have := hF g hf
  omega)
def Duo (lo p c q most : Nat) (W : World) : Prop := ∃ (a : Option Addr) (n cap : Nat) (ax : Option Addr) (nx cx : Nat) (s : List Int × Int), PW lo W p c most a n cap s ∧ UW lo W q most ax nx cx s ∧ ∀ k, rowOf a k → ¬ rowOf ax k
def LaysPost (lo p c q most : Nat) (w : World) (e : Ending) (w' : World) : Prop := e = .returned (.bool true) ∧ Below lo w w' ∧ Duo lo p c q most w'
set_option maxRecDepth 100000 in
set_option maxHeartbeats 8000000 in
theorem olays_raw {lo p c q most n cap nx cx m d : Nat} {a ax b : Option Addr} {s : List Int × Int} {k x : Int} {ys : List Int} {w : World} (P : PW lo w p c most a n cap s) (U : UW lo w q most ax nx cx s) (D : ∀ k, rowOf a k → ¬ rowOf ax k) (hcl : lo ≤ c) (hql : lo ≤ q) (hy : ∀ W, Below lo w W → Byt 0 W (.slice b m d) ys) (hm : m ≤ 100) :
    Calls Try.prog 12 #[.pointer (some ⟨p, 0, none⟩), .pointer (some ⟨q, 0, none⟩), .agg #[.bool true, .int .i64 k, .int .i64 x, .slice b m d]] w (LaysPost lo p c q most w) := by
  have Bf := below_new w (.cells #[.bool true, .int .i64 k, .int .i64 x, .slice b m d] 34)
  have YB := Box.new w (.cells #[.bool true, .int .i64 k, .int .i64 x, .slice b m d] 34)
  have P1 := P.below Bf
  have U1 := U.below Bf
  have y1 := hy _ (Bf.mono P.lo_)
  have hcp := copyb_all y1 (by omega)
  obtain ⟨j0, _, _, j3, _, _, _, _⟩ := four_cells YB
  have hws : (w.alloc (.cells #[.bool true, .int .i64 k, .int .i64 x, .slice b m d] 34)).heap.size = w.heap.size + 1 := World.size_alloc w _
  have HWS := hide hws
  have HYB := hide YB
  have HP := hide P1
  have HU := hide U1
  have HB := hide (Bf.mono P.lo_)
  have HLO := hide P.lo_
  have HPr := hide (fun k (hk : rowOf a k) => (P.row hk).2.1)
  have HUr := hide (fun k (hk : rowOf ax k) => (U.row hk).2.1)
  have HY := hide hy
  have HCL := hide hcl
  have HQL := hide hql
  have HCW := hide P.curlt
  have HQW := hide U.box.lt
  have HPW := hide P.wri.lt
  have HM := hide hm
  have HD := hide D
  clear Bf YB P1 U1 y1 P U hy hws D hcl hql
  go_enter Try.func12, Try.ntmps12
  go_wp2_with fail
  refine hcp.mono ?_
  rintro e W2 ⟨ai, ci, rfl, SI, b2⟩
  have HI2 := hide SI.block
  have YB2 := HYB.out.below b2
  have PV : PW lo W2.drew p c most a n cap s := HP.out.below (Below.drew b2)
  have UV : UW lo W2.drew q most ax nx cx s := HU.out.below (Below.drew b2)
  have IV0 : Byt (w.heap.size + 1) W2.drew (.slice ai m ci) ys := by rw [← HWS.out]; exact SI.drew
  have YV : Box W2.drew w.heap.size (.cells #[.bool true, .int .i64 k, .int .i64 x, .slice b m d] 34) := YB2.drew
  have hS : W2.drew.cell? ⟨w.heap.size, 3, none⟩ = some (.slice b m d) := (four_cells YV).2.2.2.1
  have BV : Below lo w W2.drew := HB.out.trans ((Below.drew b2).mono (Nat.le_trans HLO.out HB.out.size))
  have hsz : w.heap.size + 1 ≤ W2.heap.size := by have := b2.size; have := HWS.out; omega
  have HSZ := hide hsz
  have hp0 := (four_cells YB2).2.2.2.1
  have t0 : Hid True := trivial
  clear hcp SI b2 j0 j3 HYB HP HU HB YB2 hm hsz
  go_wp2_with fail
  go_region_held3 (fun V : World => V.cell? ⟨w.heap.size, 3, none⟩ = some (.slice b m d)) (exact hS)
    (first
    | (clear t0
       go_at_call 30
       refine (oraw_any PV IV0).mono ?_
       rintro e v1 ⟨a1, n1, c1, rfl, P1, S1, T1⟩
       have UV1 := UV.prog PV S1 HD.out
       have D1 := apart_w HD.out UV T1
       have IV1 := IV0.fresh S1 (fun k hk => hk.elim (fun e => by have := HCW.out; omega) (fun e => by have := HPr.out k e; omega))
       have YV1 := YV.spared S1 (fun hk => hk.elim (fun e => by have := HCW.out; omega) (fun e => by have := HPr.out _ e; omega))
       have BV1 := PV.base BV S1 HCL.out
       replace hS := (four_cells YV1).2.2.2.1
       have R1 : Hid (∀ k, rowOf a1 k → k < w.heap.size ∨ W2.heap.size ≤ k) := fun k hk => (T1 k hk).imp (HPr.out k) id
       have HV1S : Hid (W2.heap.size ≤ v1.heap.size) := S1.size
       clear PV UV IV0 YV BV S1 T1
       obtain ⟨s', hs'⟩ : ∃ s', rawW most s ys = s' := ⟨_, rfl⟩
       rw [hs'] at P1
       have HS' := hide hs'
       clear hs'
       have t1 : Hid True := trivial)
    | (clear t1
       go_at_call 34
       refine (uraw_any UV1 (HY.out _ BV1) (by have := HM.out; omega)).mono ?_
       rintro e v2 ⟨a2, n2, c2, rfl, U2, S2, T2⟩
       have PV2 := P1.doc UV1 S2 D1
       have D2 := apart_u D1 P1 T2
       have IV2 := IV1.fresh S2 (fun k hk => hk.elim (fun e => by have := HQW.out; omega) (fun e => by have := HUr.out k e; omega))
       have YV2 := YV1.spared S2 (fun hk => hk.elim (fun e => by have := HQW.out; omega) (fun e => by have := HUr.out _ e; omega))
       have BV2 : Below lo w v2 := BV1.trans (S2.to_below UV1.lo_ (fun k hk => hk.elim (fun e => by have := HQL.out; omega) (fun e => (UV1.row e).1)))
       replace hS := (four_cells YV2).2.2.2.1
       have R2 : Hid (∀ k, rowOf a2 k → k < w.heap.size ∨ W2.heap.size ≤ k) := fun k hk => (T2 k hk).imp (HUr.out k) (fun h => Nat.le_trans (show W2.heap.size ≤ _ from HV1S.out) h)
       clear P1 UV1 IV1 YV1 BV1 S2 T2 D1
       rw [HS'.out] at U2
       have t2 : Hid True := trivial)
    | (clear t2
       go_at_call 15
       refine (sameb_yes IV2 (HY.out _ BV2) rfl).mono ?_
       rintro e v3 ⟨rfl, b3⟩
       have PV3 := PV2.below b3
       have UV3 := U2.below b3
       have IV3 := IV2.below b3
       have YV3 := YV2.below b3
       have BV3 := BV2.trans (b3.mono PV2.lo_)
       replace hS := (four_cells YV3).2.2.2.1
       clear PV2 U2 IV2 YV2 BV2 b3
       have t3 : Hid True := trivial))
  all_goals
    have ho := overb_all IV3 (by have := HM.out; omega) W2.heap.size (fun hz g o e => HI2.out hz g o e)
    have HPV := hide PV3
    have HUV := hide UV3
    have HBV := hide BV3
    have HD2 := hide D2
    clear PV3 UV3 BV3 IV3 YV3 hS D2 t3 hp0
    go_wp2_with fail
    refine ho.mono ?_
    rintro e v4 ⟨rfl, bo, ho4⟩
    have SO := Spared.over bo ho4
    have PV4 := HPV.out.spared SO (fun h => by have := HPW.out; omega) (fun h => by have := HCW.out; omega) (fun k hk h => by have := R1.out k hk; omega)
    have UV4 := HUV.out.spared SO (fun h => by have := HQW.out; omega) (fun k hk h => by have := R2.out k hk; omega)
    have BV4 := HBV.out.trans (bo.mono (by have := HLO.out; omega))
    have HPV4 := hide PV4
    have HUV4 := hide UV4
    have HBV4 := hide BV4
    clear ho bo ho4 SO PV4 UV4 BV4 HPV HUV HBV
    go_wp2
    go_ret
    exact ⟨rfl, HBV4.out, _, _, _, _, _, _, _, HPV4.out, HUV4.out, HD2.out⟩
set_option maxRecDepth 100000 in
set_option maxHeartbeats 8000000 in
theorem olays_put {lo p c q most n cap nx cx m d : Nat} {a ax b : Option Addr} {s : List Int × Int} {k x : Int} {w : World} (P : PW lo w p c most a n cap s) (U : UW lo w q most ax nx cx s) (D : ∀ k, rowOf a k → ¬ rowOf ax k) (hcl : lo ≤ c) (hql : lo ≤ q) (hx : x ≤ 9223372036854775807) :
    Calls Try.prog 12 #[.pointer (some ⟨p, 0, none⟩), .pointer (some ⟨q, 0, none⟩), .agg #[.bool false, .int .i64 k, .int .i64 x, .slice b m d]] w (LaysPost lo p c q most w) := by
  have Bf := below_new w (.cells #[.bool false, .int .i64 k, .int .i64 x, .slice b m d] 34)
  have YB := Box.new w (.cells #[.bool false, .int .i64 k, .int .i64 x, .slice b m d] 34)
  obtain ⟨j0, j1, j2, j3, _, _, _, _⟩ := four_cells YB
  have PV : PW lo (w.alloc (.cells #[.bool false, .int .i64 k, .int .i64 x, .slice b m d] 34)).drew p c most a n cap s := P.below Bf.drew
  have UV : UW lo (w.alloc (.cells #[.bool false, .int .i64 k, .int .i64 x, .slice b m d] 34)).drew q most ax nx cx s := U.below Bf.drew
  have YV : Box (w.alloc (.cells #[.bool false, .int .i64 k, .int .i64 x, .slice b m d] 34)).drew w.heap.size (.cells #[.bool false, .int .i64 k, .int .i64 x, .slice b m d] 34) := YB.drew
  have BV : Below lo w (w.alloc (.cells #[.bool false, .int .i64 k, .int .i64 x, .slice b m d] 34)).drew := Bf.drew.mono P.lo_
  have hS : (w.alloc (.cells #[.bool false, .int .i64 k, .int .i64 x, .slice b m d] 34)).drew.cell? ⟨w.heap.size, 1, none⟩ = some (.int .i64 k) ∧ (w.alloc (.cells #[.bool false, .int .i64 k, .int .i64 x, .slice b m d] 34)).drew.cell? ⟨w.heap.size, 2, none⟩ = some (.int .i64 x) := ⟨(four_cells YV).2.1, (four_cells YV).2.2.1⟩
  have HPr := hide (fun k (hk : rowOf a k) => (P.row hk).2.1)
  have HUr := hide (fun k (hk : rowOf ax k) => (U.row hk).2.1)
  have HCL := hide hcl
  have HQL := hide hql
  have HCW := hide P.curlt
  have HQW := hide U.box.lt
  have HX := hide hx
  have HD := hide D
  have t0 : Hid True := trivial
  clear Bf YB P U D hcl hql hx
  go_enter Try.func12, Try.ntmps12
  go_wp2_with fail
  go_region_held3 (fun V : World => V.cell? ⟨w.heap.size, 1, none⟩ = some (.int .i64 k) ∧ V.cell? ⟨w.heap.size, 2, none⟩ = some (.int .i64 x)) (exact hS)
    (first
    | (clear t0
       go_at_call 29
       refine (oput_any PV HX.out).mono ?_
       rintro e v1 ⟨a1, n1, c1, rfl, P1, S1, T1⟩
       have UV1 := UV.prog PV S1 HD.out
       have D1 := apart_w HD.out UV T1
       have YV1 := YV.spared S1 (fun hk => hk.elim (fun e => by have := HCW.out; omega) (fun e => by have := HPr.out _ e; omega))
       have BV1 := PV.base BV S1 HCL.out
       replace hS := And.intro (four_cells YV1).2.1 (four_cells YV1).2.2.1
       clear PV UV YV BV S1 T1
       obtain ⟨s', hs'⟩ : ∃ s', putW most s k x = s' := ⟨_, rfl⟩
       rw [hs'] at P1
       have HS' := hide hs'
       clear hs'
       have t1 : Hid True := trivial)
    | (clear t1
       go_at_call 35
       refine (uput_any UV1 HX.out).mono ?_
       rintro e v2 ⟨a2, n2, c2, rfl, U2, S2, T2⟩
       have PV2 := P1.doc UV1 S2 D1
       have D2 := apart_u D1 P1 T2
       have YV2 := YV1.spared S2 (fun hk => hk.elim (fun e => by have := HQW.out; omega) (fun e => by have := HUr.out _ e; omega))
       have BV2 : Below lo w v2 := BV1.trans (S2.to_below UV1.lo_ (fun k hk => hk.elim (fun e => by have := HQL.out; omega) (fun e => (UV1.row e).1)))
       replace hS := And.intro (four_cells YV2).2.1 (four_cells YV2).2.2.1
       clear P1 UV1 YV1 BV1 S2 T2 D1
       rw [HS'.out] at U2
       have t2 : Hid True := trivial))
  all_goals
    have HPV4 := hide PV2
    have HUV4 := hide U2
    have HBV4 := hide BV2
    have HD2 := hide D2
    clear PV2 U2 BV2 D2 YV2 hS j0 j1 j2 j3
    go_wp2
    go_ret
    exact ⟨rfl, HBV4.out, _, _, _, _, _, _, _, HPV4.out, HUV4.out, HD2.out⟩
theorem olays_any {lo p c q most : Nat} {v : IV} {w : World} (H : Duo lo p c q most w) (hcl : lo ≤ c) (hql : lo ≤ q) (hy : ∀ W, Below lo w W → Byt 0 W (.slice v.a v.zs.length v.c) v.zs) (hm : v.zs.length ≤ 100) (hx : Fit64 v.x) :
    Calls Try.prog 12 #[.pointer (some ⟨p, 0, none⟩), .pointer (some ⟨q, 0, none⟩), v.v] w (LaysPost lo p c q most w) := by
  obtain ⟨a, n, cap, ax, nx, cx, s, P, U, D⟩ := H
  obtain ⟨raws, k, x, b, d, ys⟩ := v
  cases raws with
  | true => exact olays_raw P U D hcl hql hy hm
  | false => exact olays_put P U D hcl hql hx.2
theorem UW.down {lo lo' q most n cap : Nat} {a : Option Addr} {s : List Int × Int} {W : World} (h : UW lo W q most a n cap s) (hl : lo' ≤ lo) : UW lo' W q most a n cap s := by
  refine ⟨h.box, ?_, h.le, h.most, Nat.le_trans hl h.lo_⟩
  obtain ⟨⟨h1, h2⟩, hw⟩ := h.own
  refine ⟨⟨h1, ?_⟩, hw⟩
  rcases h2 with h2 | ⟨g, cap', cur, e, hg, r⟩
  · exact .inl h2
  · exact .inr ⟨g, cap', cur, e, Nat.le_trans hl hg, r⟩
theorem Duo.past {lo p c q most hi : Nat} {A B C : World} (H : Duo lo p c q most A) (hb : Below A.heap.size A B) (S : Spared (fun k => A.heap.size ≤ k ∧ k < hi) B C) : Duo lo p c q most C := by
  obtain ⟨a, n, cap, ax, nx, cx, s, P, U, D⟩ := H
  have hp := P.wri.lt
  have hc := P.curlt
  have hq := U.box.lt
  exact ⟨a, n, cap, ax, nx, cx, s, (P.below hb).spared S (fun h => by omega) (fun h => by omega) (fun k hk h => by have := (P.row hk).2.1; omega), (U.below hb).spared S (fun h => by omega) (fun k hk h => by have := (U.row hk).2.1; omega), D⟩
theorem tells_len {lo q most n cap : Nat} {a : Option Addr} {s : List Int × Int} {W : World} (h : UW lo W q most a n cap s) : (tells s).length ≤ 100000 := by
  unfold tells
  split
  · rw [h.len]
    exact Nat.le_trans h.le h.most
  · exact Nat.zero_le _
set_option maxRecDepth 100000 in
set_option maxHeartbeats 2000000 in
theorem owrites_no (m : Int) (hm : m < 0 ∨ 100000 < m) (sv : Option Addr) (L cap : Nat) (w : World) :
    Calls Try.prog 3 #[.int .i64 m, .slice sv L cap] w fun e w' => e = .returned (.bool true) ∧ Below w.heap.size w w' := by
  have h1 := onew_no m hm w
  have h2 := unew_no m hm w
  have h3 := oawake_any w
  clear hm
  go_enter Try.func3, Try.ntmps3
  go_wp2_with fail
  refine h1.mono ?_
  rintro e w1 ⟨rfl, hw⟩
  obtain rfl := hw.symm
  clear h1 hw
  go_wp2_with fail
  refine h2.mono ?_
  rintro e w2 ⟨rfl, hw⟩
  obtain rfl := hw.symm
  clear h2 hw
  go_wp2_with fail
  go_loopw [9] (fun i wr => i = .int .i64 0 ∧ wr = w) (fun _ _ => 0)
  case atStart => exact ⟨rfl, rfl⟩
  case round =>
    obtain ⟨rfl, rfl⟩ := hrel
    go_wp2_with fail
    refine h3.mono ?_
    rintro e w3 ⟨rfl, hb⟩
    have HB := hide hb
    clear h3 hb
    go_wp2
    go_ret
    exact ⟨rfl, HB.out⟩
set_option maxRecDepth 100000 in
set_option maxHeartbeats 8000000 in
theorem owrites_yes (m : Nat) (hm : m ≤ 100000) {sv : Option Addr} {L cap : Nat} {is : List IV} {w : World} (I : Items w sv is) (hL : is.length = L) :
    Calls Try.prog 3 #[.int .i64 m, .slice sv L cap] w fun e w' => e = .returned (.bool true) ∧ Below w.heap.size w w' := by
  have h1 := onew_yes m hm w
  have HI := hide I
  have HL := hide hL
  have HM := hide hm
  clear I hm hL
  go_enter Try.func3, Try.ntmps3
  go_wp2_with fail
  refine h1.mono ?_
  rintro e w1 ⟨p, c, rfl, P, hp, hc, b1⟩
  have h2 := unew_yes m HM.out w1
  have HP := hide P
  have HB1 := hide b1
  have HC := hide hc
  clear h1 P hp hc b1
  go_wp2_with fail
  refine h2.mono ?_
  rintro e w2 ⟨q, rfl, U, hq, b2⟩
  have HQ : Hid (w.heap.size ≤ q) := Nat.le_trans HB1.out.size hq
  have HB2 := hide (HB1.out.trans (b2.mono HB1.out.size))
  have HD : Hid (Duo w.heap.size p c q m w2) := ⟨none, 0, 0, none, 0, 0, ([], 0), HP.out.below b2, U.down HB1.out.size, fun _ h => by cases h⟩
  clear h2 U hq b2 HP HB1
  go_wp2_with fail
  go_loopw [9] (fun i wr => ∃ j : Nat, j ≤ L ∧ j ≤ 40 ∧ i = .int .i64 j ∧ Hid (Duo w.heap.size p c q m wr) ∧ Hid (Below w.heap.size w wr)) (fun i _ => 40 - (intOf i).toNat)
  case atStart => exact ⟨0, Nat.zero_le _, by omega, rfl, HD, HB2⟩
  case round =>
    clear HD HB2
    obtain ⟨j, hj, hj40, rfl, HD, HB⟩ := hrel
    have hlo := olong_any (cap := cap) (HI.out.below HB.out) HL.out
    obtain ⟨R, hR⟩ : ∃ R, isLong is = R := ⟨_, rfl⟩
    rw [hR] at hlo
    have HR := hide hR
    clear hR
    go_wp2_with fail
    refine hlo.mono ?_
    rintro e w3 ⟨rfl, hw3⟩
    obtain rfl := hw3.symm
    clear hlo hw3
    have haw : ∀ V, Calls Try.prog 17 #[] V fun e w' => e = .returned (.bool true) ∧ Below V.heap.size V w' := fun V => oawake_any V
    have HAW := hide haw
    clear haw
    cases R with
    | true =>
      have h3 := HAW.out wr
      go_wp2_with fail
      refine h3.mono ?_
      rintro e w4 ⟨rfl, hb⟩
      have HB4 := hide (HB.out.trans (hb.mono HB.out.size))
      clear h3 hb
      go_wp2
      go_ret
      exact ⟨rfl, HB4.out⟩
    | false =>
      obtain ⟨hl40, hl100⟩ := isLong_no HR.out
      by_cases hjL : j < L
      · have hji : (j : Int) < (L : Int) := by omega
        have hjl : j < is.length := by rw [HL.out]; exact hjL
        have hX : is[j]? = some is[j] := List.getElem?_eq_getElem hjl
        obtain ⟨v, hv⟩ : ∃ v, is[j] = v := ⟨_, rfl⟩
        rw [hv] at hX
        obtain ⟨g, o, rfl, hg, c0, c1, c2, c3⟩ := (HI.out.below HB.out).cells j v hX
        have hly := olays_any (v := v) HD.out HC.out HQ.out (fun W hW => (HI.out.below (HB.out.trans hW)).held j v hX) (hl100 v (List.mem_of_getElem? hX)) (HI.out.fits j v hX).2
        unfold IV.v at hly
        have HJ : Hid (j < 40) := by show j < 40; have := HL.out; omega
        have HG := hide hg
        clear hv hjl hl40 hl100 hX hg
        go_wp2_with fail
        refine hly.mono ?_
        rintro e w4 ⟨rfl, b4, D4⟩
        have HB4 := hide (HB.out.trans b4)
        obtain ⟨a5, n5, k5, ax, nx, cx, s, P, U, D⟩ := D4
        have HD4 : Hid (Duo w.heap.size p c q m w4) := ⟨a5, n5, k5, ax, nx, cx, s, P, U, D⟩
        have hbp := obytes_any P
        have HU := hide U
        clear hly b4 P U D c0 c1 c2 c3
        go_wp2_with fail
        refine hbp.mono ?_
        rintro e w5 ⟨a6, n6, k6, rfl, S6, b5⟩
        have hbu := ubytes_any (HU.out.below b5)
        have HB5 := hide b5
        have HS6 := hide S6
        clear hbp b5 S6
        go_wp2_with fail
        refine hbu.mono ?_
        rintro e w6 ⟨a7, n7, k7, rfl, S7, b6⟩
        have hsa := sameb_yes (HS6.out.below b6) S7 rfl
        have HB6 := hide (HB5.out.trans (b6.mono HB5.out.size))
        have HS66 := hide (HS6.out.below b6)
        clear hbu S7 b6
        go_wp2_with fail
        refine hsa.mono ?_
        rintro e w7 ⟨rfl, b7⟩
        have HB7 := hide (HB6.out.trans (b7.mono HB6.out.size))
        have h6n : n6 ≤ 1000000 := by have := HS6.out.len.1; have := tells_len HU.out; omega
        have hov := overb_all (HS66.out.below b7) h6n w5.heap.size (fun hz b o e => HS6.out.block hz b o e)
        clear hsa b7 h6n
        go_wp2_with fail
        refine hov.mono ?_
        rintro e w8 ⟨rfl, b8, o8⟩
        have HB8 : Hid (Below w.heap.size w w8) := (HB4.out.trans (HB7.out.mono HB4.out.size)).trans (b8.mono HB4.out.size)
        have HD8 : Hid (Duo w.heap.size p c q m w8) := HD4.out.past HB7.out (Spared.over b8 o8)
        clear hov b8 o8 HD4 HB4 HB5 HB6 HB7 HS6 HS66 HU
        go_wp2
        exact ⟨⟨j + 1, by omega, by have := HJ.out; omega, by go_num, HD8, HB8⟩, by have := HJ.out; simp [intOf]; omega⟩
      · have hji : ¬ (j : Int) < (L : Int) := by omega
        have h3 := HAW.out wr
        clear hl40 hl100
        go_wp2_with fail
        refine h3.mono ?_
        rintro e w4 ⟨rfl, hb⟩
        have HB4 := hide (HB.out.trans (hb.mono HB.out.size))
        clear h3 hb
        go_wp2
        go_ret
        exact ⟨rfl, HB4.out⟩
theorem owrites_any (m : Int) (hm : -9223372036854775808 ≤ m ∧ m ≤ 9223372036854775807) {sv : Option Addr} {cap : Nat} {is : List IV} {w : World} (I : Items w sv is) :
    Calls Try.prog 3 #[.int .i64 m, .slice sv is.length cap] w fun e w' => e = .returned (.bool true) ∧ Below w.heap.size w w' := by
  by_cases h : m < 0 ∨ 100000 < m
  · exact owrites_no m h sv _ cap w
  · obtain ⟨M, rfl⟩ := Int.eq_ofNat_of_zero_le (show 0 ≤ m by omega)
    exact owrites_yes M (by omega) I rfl
end Go.Proofs.Ythpobmgnpgogaaa
