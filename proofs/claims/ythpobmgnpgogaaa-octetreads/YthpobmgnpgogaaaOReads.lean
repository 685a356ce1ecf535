/-
  OctetReads: what a reader takes, and which fault is first.
-/
import Derived.Test.YthpobmgnpgogaaaJOBytes
namespace Go.Proofs.Ythpobmgnpgogaaa
open Go.RowKit

/-- Both readers, which have the same and stand alike. -/
def RDuo (r c q : Nat) (W : World) : Prop := ∃ (lo lx : Nat) (a : Option Addr) (n cap : Nat) (ax : Option Addr) (nx cx : Nat) (zs : List Int) (s : RS), PR lo W r c a n cap zs s ∧ UR lx W q ax nx cx zs s
/-- The program's reader beside the document's, which is used. -/
theorem PR.doc {lo lx r c n cap q nx cx : Nat} {a ax : Option Addr} {zs xs : List Int} {s sx : RS} {A B : World} (h : PR lo A r c a n cap zs s) (U : UR lx A q ax nx cx xs sx) (S : Spared (fun k => k = q) A B) : PR lo B r c a n cap zs s :=
  ⟨Box.spared h.rdr S (fun e => Box.apart h.rdr U.box (by decide) e), Box.spared h.cur S (fun e => Box.apart h.cur U.box (by decide) e), h.byt.keep S (fun hz g o e hk => h.byt.off U.box (cur_noOct _ (fun _ _ e => by cases e) _ _ _) hz g o e hk), h.ok, h.small⟩
/-- The document's reader beside the program's, which is used. -/
theorem UR.prog {lo lx r c n cap q nx cx : Nat} {a ax : Option Addr} {zs xs : List Int} {s sx : RS} {A B : World} (h : UR lx A q ax nx cx xs sx) (P : PR lo A r c a n cap zs s) (S : Spared (fun k => k = c) A B) : UR lx B q ax nx cx xs sx :=
  ⟨Box.spared h.box S (fun e => Box.apart P.cur h.box (by decide) e.symm), h.byt.keep S (fun hz g o e hk => h.byt.off P.cur (cur_noOct _ (fun _ _ e => by cases e) _ _ _) hz g o e hk), h.ok, h.small⟩
theorem RDuo.below {r c q : Nat} {A B : World} (h : RDuo r c q A) (hb : Below A.heap.size A B) : RDuo r c q B := by
  obtain ⟨lo, lx, a, n, cap, ax, nx, cx, zs, s, P, U⟩ := h
  exact ⟨lo, lx, a, n, cap, ax, nx, cx, zs, s, P.below hb, U.below hb⟩
/-- Older memory is written over. -/
theorem PR.older {lo r c n cap L hi : Nat} {a : Option Addr} {zs : List Int} {s : RS} {A B : World} (h : PR lo A r c a n cap zs s) (S : Spared (fun k => L ≤ k ∧ k < hi) A B) (h1 : hi ≤ lo) (h2 : hi ≤ r) (h3 : hi ≤ c) : PR lo B r c a n cap zs s := by
  refine ⟨Box.spared h.rdr S (fun h => by omega), Box.spared h.cur S (fun h => by omega), h.byt.keep S (fun hz g o e hk => ?_), h.ok, h.small⟩
  obtain ⟨g', o', e', hl, _⟩ := h.byt.row (by rw [h.byt.len.1]; exact List.length_pos_iff.2 hz)
  rw [e] at e'
  simp only [Option.some.injEq, Addr.mk.injEq] at e'
  omega
theorem UR.older {lo q n cap L hi : Nat} {a : Option Addr} {zs : List Int} {s : RS} {A B : World} (h : UR lo A q a n cap zs s) (S : Spared (fun k => L ≤ k ∧ k < hi) A B) (h1 : hi ≤ lo) (h2 : hi ≤ q) : UR lo B q a n cap zs s := by
  refine ⟨Box.spared h.box S (fun h => by omega), h.byt.keep S (fun hz g o e hk => ?_), h.ok, h.small⟩
  obtain ⟨g', o', e', hl, _⟩ := h.byt.row (by rw [h.byt.len.1]; exact List.length_pos_iff.2 hz)
  rw [e] at e'
  simp only [Option.some.injEq, Addr.mk.injEq] at e'
  omega
/-- What a reader stands on is older than L. -/
theorem PR.old {lo r c n cap : Nat} {a : Option Addr} {zs : List Int} {s : RS} {A : World} (h : PR lo A r c a n cap zs s) : r < A.heap.size ∧ c < A.heap.size ∧ ∀ g o k, zs ≠ [] → a = some ⟨g, o, k⟩ → g < A.heap.size := by
  refine ⟨h.rdr.lt, h.cur.lt, fun g o k hz e => ?_⟩
  obtain ⟨g', o', e', _, hl⟩ := h.byt.row (by rw [h.byt.len.1]; exact List.length_pos_iff.2 hz)
  rw [e] at e'
  simp only [Option.some.injEq, Addr.mk.injEq] at e'
  omega
theorem UR.old {lo q n cap : Nat} {a : Option Addr} {zs : List Int} {s : RS} {A : World} (h : UR lo A q a n cap zs s) : q < A.heap.size ∧ ∀ g o k, zs ≠ [] → a = some ⟨g, o, k⟩ → g < A.heap.size := by
  refine ⟨h.box.lt, fun g o k hz e => ?_⟩
  obtain ⟨g', o', e', _, hl⟩ := h.byt.row (by rw [h.byt.len.1]; exact List.length_pos_iff.2 hz)
  rw [e] at e'
  simp only [Option.some.injEq, Addr.mk.injEq] at e'
  omega
theorem PR.over {lo r c n cap L hi : Nat} {a : Option Addr} {zs : List Int} {s : RS} {A B : World} (h : PR lo A r c a n cap zs s) (hL : r < L ∧ c < L ∧ ∀ g o k, zs ≠ [] → a = some ⟨g, o, k⟩ → g < L) (S : Spared (fun k => L ≤ k ∧ k < hi) A B) : PR lo B r c a n cap zs s :=
  ⟨Box.spared h.rdr S (fun h => by have := hL.1; omega), Box.spared h.cur S (fun h => by have := hL.2.1; omega), h.byt.keep S (fun hz g o e hk => by have := hL.2.2 _ _ _ hz e; omega), h.ok, h.small⟩
theorem UR.over {lo q n cap L hi : Nat} {a : Option Addr} {zs : List Int} {s : RS} {A B : World} (h : UR lo A q a n cap zs s) (hL : q < L ∧ ∀ g o k, zs ≠ [] → a = some ⟨g, o, k⟩ → g < L) (S : Spared (fun k => L ≤ k ∧ k < hi) A B) : UR lo B q a n cap zs s :=
  ⟨Box.spared h.box S (fun h => by have := hL.1; omega), h.byt.keep S (fun hz g o e hk => by have := hL.2 _ _ _ hz e; omega), h.ok, h.small⟩
theorem rawR_le (zs : List Int) (s : RS) (x : Int) : (rawR zs s x).1.length ≤ zs.length := by
  unfold rawR
  split
  · split
    · exact Nat.zero_le _
    · split
      · exact Nat.zero_le _
      · rw [List.length_take, List.length_drop]; omega
  · exact Nat.zero_le _
set_option maxRecDepth 100000 in
set_option maxHeartbeats 2000000 in
/-- Too many bytes. -/
theorem oreads_far (b : Option Addr) (n d : Nat) (hn : 300 < n) (sv : Option Addr) (L cap : Nat) (w : World) :
    Calls Try.prog 4 #[.slice b n d, .slice sv L cap] w fun e w' => e = .returned (.bool true) ∧ Below w.heap.size w w' := by
  have h3 := oawake_any w
  have hi : 300 < (n : Int) := by omega
  go_enter Try.func4, Try.ntmps4
  go_wp2_with fail
  refine h3.mono ?_
  rintro e w1 ⟨rfl, hb⟩
  have HB := hide hb
  clear h3 hb
  go_wp2
  go_ret
  exact ⟨rfl, HB.out⟩
set_option maxRecDepth 100000 in
set_option maxHeartbeats 2000000 in
/-- Too many items. -/
theorem oreads_long (b : Option Addr) (n d : Nat) (hn : ¬ 300 < n) {sv : Option Addr} {L cap : Nat} {is : List IV} {w : World} (I : Items w sv is) (hL : is.length = L) (hlong : isLong is = true) :
    Calls Try.prog 4 #[.slice b n d, .slice sv L cap] w fun e w' => e = .returned (.bool true) ∧ Below w.heap.size w w' := by
  have h3 := oawake_any w
  have hlo := olong_any (cap := cap) I hL
  rw [hlong] at hlo
  have hi : ¬ 300 < (n : Int) := by omega
  clear I hL hlong hn
  go_enter Try.func4, Try.ntmps4
  go_wp2_with fail
  refine hlo.mono ?_
  rintro e w3 ⟨rfl, hw3⟩
  obtain rfl := hw3.symm
  clear hlo hw3
  go_wp2_with fail
  refine h3.mono ?_
  rintro e w1 ⟨rfl, hb⟩
  have HB := hide hb
  clear h3 hb
  go_wp2
  go_ret
  exact ⟨rfl, HB.out⟩
set_option maxRecDepth 100000 in
set_option maxHeartbeats 16000000 in
/-- OctetReads, of few. -/
theorem oreads_few {b : Option Addr} {n d : Nat} {bs : List Int} (hn : ¬ 300 < n) {sv : Option Addr} {L cap : Nat} {is : List IV} {w : World} (X : Byt 0 w (.slice b n d) bs) (I : Items w sv is) (hL : is.length = L) (hlong : isLong is = false) :
    Calls Try.prog 4 #[.slice b n d, .slice sv L cap] w fun e w' => e = .returned (.bool true) ∧ Below w.heap.size w w' := by
  have hlo := olong_any (cap := cap) I hL
  rw [hlong] at hlo
  have hi : ¬ 300 < (n : Int) := by omega
  have hcp := copyb_all X (by omega)
  have HI := hide I
  have HX := hide X
  have HL := hide hL
  have HNN : Hid (n ≤ 300) := by show n ≤ 300; omega
  have HLO := hide (isLong_no hlong)
  clear I X hL hlong hn
  go_enter Try.func4, Try.ntmps4
  go_wp2_with fail
  refine hlo.mono ?_
  rintro e w3 ⟨rfl, hw3⟩
  obtain rfl := hw3.symm
  clear hlo hw3
  go_wp2_with fail
  refine hcp.mono ?_
  rintro e w2 ⟨ai, ci, rfl, SI, b2⟩
  have hr := onewr_any SI (by have := HNN.out; omega)
  have HSI := hide SI
  have HB2 := hide b2
  clear hcp SI b2
  go_wp2_with fail
  refine hr.mono ?_
  rintro e w4 ⟨r, c, a, k4, rfl, P, hrr, hrc, b4⟩
  have hu := unewr_any (HX.out.below (HB2.out.trans (b4.mono HB2.out.size))) (by have := HNN.out; omega)
  have HP := hide P
  have HB4 := hide b4
  have HRR := hide hrr
  have HRC := hide hrc
  clear hr P hrr hrc b4
  go_wp2_with fail
  refine hu.mono ?_
  rintro e w5 ⟨q, ax, k5, rfl, U, hq, b5⟩
  have HU := hide U
  have HQ : Hid (w2.heap.size ≤ q) := Nat.le_trans HB4.out.size hq
  have HP5 := hide (HP.out.below b5)
  have HB5 := hide (HB4.out.trans (b5.mono HB4.out.size))
  have HQ4 := hide hq
  have hsa := sameb_yes (HSI.out.below HB5.out) (HX.out.below (HB2.out.trans (HB5.out.mono HB2.out.size))) rfl
  clear hu U hq b5
  go_wp2_with fail
  refine hsa.mono ?_
  rintro e w6 ⟨rfl, b6⟩
  have HB6 := hide (HB5.out.trans (b6.mono HB5.out.size))
  have HP6 := hide (HP5.out.below b6)
  have HU6 := hide (HU.out.below b6)
  have hov := overb_all (HSI.out.below HB6.out) (by have := HNN.out; omega) w2.heap.size (fun hz b o e => HSI.out.block hz b o e)
  clear hsa b6
  go_wp2_with fail
  refine hov.mono ?_
  rintro e w7 ⟨rfl, b7, o7⟩
  have SO := Spared.over b7 o7
  have hB7 : Below w.heap.size w w7 := (HB2.out.trans (HB6.out.mono HB2.out.size)).trans b7
  have HD : Hid (RDuo r c q w7) := ⟨_, _, _, _, _, _, _, _, _, _, HP6.out.older SO (Nat.le_refl _) HRR.out HRC.out, HU6.out.older SO (Nat.le_trans (Nat.le_refl _) HB4.out.size) HQ.out⟩
  have HB := hide hB7
  have HC : Hid (w.heap.size ≤ c) := Nat.le_trans HB2.out.size HRC.out
  have HQB : Hid (w.heap.size ≤ q) := Nat.le_trans HB2.out.size HQ.out
  clear hov b7 o7 SO hB7 HP HP5 HP6 HU HU6 HB2 HB4 HB5 HB6 HRR HRC HQ HQ4 HSI
  go_wp2_with fail
  go_loopw [8] (fun i wr => ∃ j : Nat, j ≤ L ∧ j ≤ 40 ∧ i = .int .i64 j ∧ Hid (RDuo r c q wr) ∧ Hid (Below w.heap.size w wr)) (fun i _ => 40 - (intOf i).toNat)
  case atStart => exact ⟨0, Nat.zero_le _, by omega, rfl, HD, HB⟩
  case round =>
    clear HD HB
    obtain ⟨j, hj, hj40, rfl, HD, HB⟩ := hrel
    by_cases hjL : j < L
    · have hji : (j : Int) < (L : Int) := by omega
      have hjl : j < is.length := by rw [HL.out]; exact hjL
      have hX : is[j]? = some is[j] := List.getElem?_eq_getElem hjl
      obtain ⟨v, hv⟩ : ∃ v, is[j] = v := ⟨_, rfl⟩
      rw [hv] at hX
      obtain ⟨g, o, rfl, hg, c0, c1, c2, c3⟩ := (HI.out.below HB.out).cells j v hX
      obtain ⟨raws, k, x, vb, vd, ys⟩ := v
      dsimp only at c0 c1 c2 c3
      have HJ : Hid (j < 40) := by show j < 40; have := HL.out; have := HLO.out.1; omega
      have HIJ : Hid (∀ V, Below w.heap.size w V → V.cell? ⟨g, o + j * 4 + 1, none⟩ = some (.int .i64 k) ∧ V.cell? ⟨g, o + j * 4 + 2, none⟩ = some (.int .i64 x)) := fun V hV => by
        obtain ⟨g', o', e, _, _, d1, d2, _⟩ := (HI.out.below hV).cells j _ hX
        simp only [Option.some.injEq, Addr.mk.injEq] at e
        obtain ⟨rfl, rfl, _⟩ := e
        exact ⟨d1, d2⟩
      clear hv hjl hX hg hjL
      obtain ⟨lo, lx, a, n, cap', ax, nx, cx, zs, s, P, U⟩ := HD.out
      have HOP := hide P.old
      have HOU := hide U.old
      have HSZW : Hid (w.heap.size ≤ wr.heap.size) := HB.out.size
      have HNR : Hid ((rawR zs s x).1.length ≤ 100000) := by show (rawR zs s x).1.length ≤ 100000; have := rawR_le zs s x; have := P.byt.len.1; have := P.small; omega
      clear HD
      cases raws with
      | true =>
        have hS : wr.drew.cell? ⟨g, o + j * 4 + 1, none⟩ = some (.int .i64 k) ∧ wr.drew.cell? ⟨g, o + j * 4 + 2, none⟩ = some (.int .i64 x) := HIJ.out _ HB.out.drew
        have PV : PR lo wr.drew r c a n cap' zs s := P.below ((Below.refl _ wr).drew)
        have UV : UR lx wr.drew q ax nx cx zs s := U.below ((Below.refl _ wr).drew)
        have BV : Below w.heap.size w wr.drew := HB.out.drew
        have t0 : Hid True := trivial
        clear P U
        go_wp2_with fail
        go_region_held3 (fun V : World => V.cell? ⟨g, o + j * 4 + 1, none⟩ = some (.int .i64 k) ∧ V.cell? ⟨g, o + j * 4 + 2, none⟩ = some (.int .i64 x)) (exact hS)
          (first
          | (clear t0
             go_at_call 21
             refine (orraw_any PV).mono ?_
             rintro e v1 ⟨b1, m1, d1, rfl, Y1, P1, S1⟩
             have U1 := UV.prog PV S1
             have B1 := PV.base BV S1 HC.out
             have HSZ1 : Hid (wr.heap.size ≤ v1.heap.size) := S1.size
             have HY1 : Hid (Byt wr.heap.size v1 (.slice b1 m1 d1) (rawR zs s x).1) := Y1
             replace hS := HIJ.out _ B1
             clear PV UV BV S1 Y1
             have t1 : Hid True := trivial)
          | (clear t1
             go_at_call 22
             refine (urraw_any U1).mono ?_
             rintro e v2 ⟨b2, m2, d2, rfl, Y2, U2, S2⟩
             have P2 := P1.doc U1 S2
             have B2 : Below w.heap.size w v2 := B1.trans (S2.to_below B1.size (fun k hk => by have := HQB.out; omega))
             have HSZ2 : Hid (v1.heap.size ≤ v2.heap.size) := S2.size
             have HY12 : Hid (Byt wr.heap.size v2 (.slice b1 m1 d1) (rawR zs s x).1) := HY1.out.keep S2 (fun hz g o e hk => HY1.out.off U1.box (cur_noOct _ (fun _ _ e => by cases e) _ _ _) hz g o e hk)
             have HY2 := hide Y2
             replace hS := HIJ.out _ B2
             clear P1 U1 B1 S2 Y2
             have t2 : Hid True := trivial))
        all_goals
          have HP2 := hide P2
          have HU2 := hide U2
          have HB2 := hide B2
          have hsa := sameb_yes HY12.out HY2.out rfl
          clear P2 U2 B2 hS t2
          go_wp2_with fail
          refine hsa.mono ?_
          rintro e v3 ⟨rfl, b3⟩
          have HB3 := hide (HB2.out.trans (b3.mono (Nat.le_trans HSZW.out (Nat.le_trans HSZ1.out HSZ2.out))))
          have HP3 := hide (HP2.out.below b3)
          have HU3 := hide (HU2.out.below b3)
          have hov := overb_all (HY12.out.below b3) (by have := HNR.out; have := HY12.out.len.1; omega) v1.heap.size (fun hz b o e => HY1.out.block hz b o e)
          clear hsa b3
          go_wp2_with fail
          refine hov.mono ?_
          rintro e v4 ⟨rfl, b4, o4⟩
          have SO := Spared.over b4 o4
          have HB4 := hide (HB3.out.trans (b4.mono HSZW.out))
          have P4 := HP3.out.over HOP.out SO
          have U4 := HU3.out.over HOU.out SO
          have h1 := orest_any P4
          have HP4 := hide P4
          have HU4 := hide U4
          have HSZ4 : Hid (w.heap.size ≤ v4.heap.size) := HB4.out.size
          clear hov b4 o4 SO P4 U4
          go_wp2_with fail
          refine h1.mono ?_
          rintro e v5 ⟨rfl, b5⟩
          have h2 := urrest_any (HU4.out.below b5)
          have HB5 := hide b5
          clear h1 b5
          go_wp2_with fail
          refine h2.mono ?_
          rintro e v6 ⟨rfl, b6⟩
          have HB6 := hide (HB5.out.trans (b6.mono HB5.out.size))
          have h3 := oend_any (HP4.out.below HB6.out)
          clear h2 b6 HB5
          go_wp2_with fail
          refine h3.mono ?_
          rintro e v7 ⟨rfl, b7⟩
          have HB7 := hide (HB6.out.trans (b7.mono HB6.out.size))
          have h4 := urend_any (HU4.out.below HB7.out)
          clear h3 b7 HB6
          go_wp2_with fail
          refine h4.mono ?_
          rintro e v8 ⟨rfl, b8⟩
          have HB8 := hide (HB7.out.trans (b8.mono HB7.out.size))
          clear h4 b8 HB7
          go_wp2
          exact ⟨⟨j + 1, by omega, by have := HJ.out; omega, by go_num, ⟨_, _, _, _, _, _, _, _, _, _, HP4.out.below HB8.out, HU4.out.below HB8.out⟩, HB4.out.trans (HB8.out.mono HSZ4.out)⟩, by have := HJ.out; simp [intOf]; omega⟩
      | false =>
        have hS : wr.drew.cell? ⟨g, o + j * 4 + 1, none⟩ = some (.int .i64 k) ∧ wr.drew.cell? ⟨g, o + j * 4 + 2, none⟩ = some (.int .i64 x) := HIJ.out _ HB.out.drew
        have PV : PR lo wr.drew r c a n cap' zs s := P.below ((Below.refl _ wr).drew)
        have UV : UR lx wr.drew q ax nx cx zs s := U.below ((Below.refl _ wr).drew)
        have BV : Below w.heap.size w wr.drew := HB.out.drew
        have t0 : Hid True := trivial
        clear P U
        go_wp2_with fail
        go_region_held3 (fun V : World => V.cell? ⟨g, o + j * 4 + 1, none⟩ = some (.int .i64 k) ∧ V.cell? ⟨g, o + j * 4 + 2, none⟩ = some (.int .i64 x)) (exact hS)
          (first
          | (clear t0
             go_at_call 23
             refine (orget_any PV).mono ?_
             rintro e v1 ⟨rfl, P1, S1⟩
             have U1 := UV.prog PV S1
             have B1 := PV.base BV S1 HC.out
             replace hS := HIJ.out _ B1
             clear PV UV BV S1
             have t1 : Hid True := trivial)
          | (clear t1
             go_at_call 24
             refine (urget_any U1).mono ?_
             rintro e v2 ⟨rfl, U2, S2⟩
             have P2 := P1.doc U1 S2
             have B2 : Below w.heap.size w v2 := B1.trans (S2.to_below B1.size (fun k hk => by have := HQB.out; omega))
             replace hS := HIJ.out _ B2
             clear P1 U1 B1 S2
             have t2 : Hid True := trivial))
        all_goals
          have h1 := orest_any P2
          have HP4 := hide P2
          have HU4 := hide U2
          have HB4 := hide B2
          have HSZ4 : Hid (w.heap.size ≤ v2.heap.size) := B2.size
          clear P2 U2 B2 hS t2
          go_wp2_with fail
          refine h1.mono ?_
          rintro e v5 ⟨rfl, b5⟩
          have h2 := urrest_any (HU4.out.below b5)
          have HB5 := hide b5
          clear h1 b5
          go_wp2_with fail
          refine h2.mono ?_
          rintro e v6 ⟨rfl, b6⟩
          have HB6 := hide (HB5.out.trans (b6.mono HB5.out.size))
          have h3 := oend_any (HP4.out.below HB6.out)
          clear h2 b6 HB5
          go_wp2_with fail
          refine h3.mono ?_
          rintro e v7 ⟨rfl, b7⟩
          have HB7 := hide (HB6.out.trans (b7.mono HB6.out.size))
          have h4 := urend_any (HU4.out.below HB7.out)
          clear h3 b7 HB6
          go_wp2_with fail
          refine h4.mono ?_
          rintro e v8 ⟨rfl, b8⟩
          have HB8 := hide (HB7.out.trans (b8.mono HB7.out.size))
          clear h4 b8 HB7
          go_wp2
          exact ⟨⟨j + 1, by omega, by have := HJ.out; omega, by go_num, ⟨_, _, _, _, _, _, _, _, _, _, HP4.out.below HB8.out, HU4.out.below HB8.out⟩, HB4.out.trans (HB8.out.mono HSZ4.out)⟩, by have := HJ.out; simp [intOf]; omega⟩
    · have hji : ¬ (j : Int) < (L : Int) := by omega
      have h3 := oawake_any wr
      go_wp2_with fail
      refine h3.mono ?_
      rintro e w4 ⟨rfl, hb⟩
      have HB4 := hide (HB.out.trans (hb.mono HB.out.size))
      clear h3 hb
      go_wp2
      go_ret
      exact ⟨rfl, HB4.out⟩
theorem oreads_any {b : Option Addr} {n d : Nat} {bs : List Int} {sv : Option Addr} {cap : Nat} {is : List IV} {w : World} (X : Byt 0 w (.slice b n d) bs) (I : Items w sv is) :
    Calls Try.prog 4 #[.slice b n d, .slice sv is.length cap] w fun e w' => e = .returned (.bool true) ∧ Below w.heap.size w w' := by
  by_cases hn : 300 < n
  · exact oreads_far b n d hn sv _ cap w
  · cases h : isLong is with
    | true => exact oreads_long b n d hn I rfl h
    | false => exact oreads_few hn X I rfl h
end Go.Proofs.Ythpobmgnpgogaaa
